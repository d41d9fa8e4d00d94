import Derived.Test.YtcfngdnmpogaoaaGreatLinesUptoT13
import Derived.Test.YtcfngdnmpogaoaaGreatLinesUptoT11
import Derived.Test.YtcfngdnmpogaoaaGreatLinesUptoT03

/-
  A pane, the parts, a run in memory, whatever they hold.
-/
namespace Go.Proofs.YtcfngdnmpogaoaaGreat
open Go.RowKit Go.MuLone Go.Maps

/-- A block of cells of a type. -/
def Cb (w : World) (k : Nat) (t : TypeId) : Prop := ∃ c, w.heap[k]? = some (.cells c t (0, 0))
/-- A block that is a map. -/
def Mb (w : World) (k : Nat) : Prop := ∃ es c, w.heap[k]? = some (.map es c)
theorem Cb.ne {w : World} {x y : Nat} {t u : TypeId} (h1 : Cb w x t) (h2 : Cb w y u) (ht : t ≠ u) : x ≠ y := by
  rintro rfl
  obtain ⟨c, h1⟩ := h1
  obtain ⟨d, h2⟩ := h2
  rw [h1] at h2
  simp only [Option.some.injEq, Obj.cells.injEq] at h2
  exact ht h2.2.1
theorem Cb.neM {w : World} {x y : Nat} {t : TypeId} (h1 : Cb w x t) (h2 : Mb w y) : x ≠ y := by
  rintro rfl
  obtain ⟨c, h1⟩ := h1
  obtain ⟨e, d, h2⟩ := h2
  rw [h1] at h2; cases h2
theorem Cb.of {w : World} {k : Nat} {t : TypeId} {c : Array Value} (h : w.heap[k]? = some (.cells c t (0, 0))) : Cb w k t := ⟨c, h⟩
theorem Mb.of {w : World} {P : Program} {k : TypeId} {R : Value → Option (DataW Unit × List MemPlace)} {b n : Nat} {D : DataW Unit} (h : w.ownsMap P k R b n D) : Mb w b := by
  obtain ⟨es, c, h, _⟩ := h; exact ⟨es, c, h⟩
theorem Row.cb {w : World} {e : TypeId} {sz : Nat} {v : Value} {xs : List Value} (h : Row w e sz v xs) {k : Nat} (hk : v.ownBlock = some k) : Cb w k e := (h.blk_lt hk).2
theorem Cb.lt {w : World} {k : Nat} {t : TypeId} (h : Cb w k t) : k < w.heap.size := by obtain ⟨c, h⟩ := h; exact blkLt h

/-- The tags of a pane. -/
def TagM (w : World) (M : Nat) (es : List Ev) : Prop := ∃ n, n ≤ 4294967296 ∧ w.ownsMap Tryz.prog 26 (unitElem (H := Unit)) M n (tagsD es)
theorem TagM.congr {w w' : World} {M : Nat} {es : List Ev} (h : TagM w M es) (hb : w'.heap[M]? = w.heap[M]?) : TagM w' M es := by
  obtain ⟨n, hn, h⟩ := h; exact ⟨n, hn, mapBlock h hb⟩
theorem TagM.mb {w : World} {M : Nat} {es : List Ev} (h : TagM w M es) : Mb w M := by obtain ⟨n, _, h⟩ := h; exact Mb.of h
theorem TagM.lt {w : World} {M : Nat} {es : List Ev} (h : TagM w M es) : M < w.heap.size := by obtain ⟨n, _, h⟩ := h; exact h.lt
/-- How many panes have each tag, in memory. -/
def TagC (w : World) (M : Nat) (f : Int → Nat) : Prop := ∃ n D, n ≤ 4294967296 ∧ w.ownsMap Tryz.prog 26 (plainElem (H := Unit) Tryz.prog 3) M n D ∧ TagsC D f
theorem TagC.congr {w w' : World} {M : Nat} {f : Int → Nat} (h : TagC w M f) (hb : w'.heap[M]? = w.heap[M]?) : TagC w' M f := by
  obtain ⟨n, D, hn, h, hf⟩ := h; exact ⟨n, D, hn, mapBlock h hb, hf⟩
theorem TagC.mb {w : World} {M : Nat} {f : Int → Nat} (h : TagC w M f) : Mb w M := by obtain ⟨n, D, _, h, _⟩ := h; exact Mb.of h
theorem TagC.lt {w : World} {M : Nat} {f : Int → Nat} (h : TagC w M f) : M < w.heap.size := by obtain ⟨n, D, _, h, _⟩ := h; exact h.lt

structure PaneAt (w : World) (P M : Nat) (p : Pane) : Prop where
  pane : w.heap[P]? = some (.cells (paneCells p.first p.last (cntV p.evs) (sumV p.evs) (loV p.evs) (hiV p.evs) M) 207 (0, 0))
  tags : TagM w M p.evs
theorem PaneAt.congr {w w' : World} {P M : Nat} {p : Pane} (h : PaneAt w P M p) (h1 : w'.heap[P]? = w.heap[P]?) (h2 : w'.heap[M]? = w.heap[M]?) : PaneAt w' P M p :=
  ⟨h1.trans h.pane, h.tags.congr h2⟩

/-- The events of panes. -/
def evsOf (ps : List Pane) : List Ev := ps.flatMap Pane.evs

structure PartsAt (w : World) (b : Nat) (cv gv : Value) (ps : List Pane) : Prop where
  tot : w.heap[b]? = some (.cells #[.int .i64 (cntV (evsOf ps)), .int .i64 (sumV (evsOf ps))] 214 (0, 0))
  bnd : w.heap[b + 1]? = some (.cells #[cv, gv] 240 (0, 0))
  stacks : ∃ cm gg, Row w 261 4 cv (levels cm) ∧ Row w 261 4 gv (levels gg) ∧ gg.reverse ++ cm = ps.map Pane.span
  apart : ∀ k, cv.ownBlock = some k → gv.ownBlock ≠ some k
  tags : TagC w (b + 2) (tagN ps)
  all : w.heap[b + 3]? = some (.cells #[.iface 212 (.pointer (some ⟨b, 0, none⟩)), .iface 215 (.pointer (some ⟨b + 1, 0, none⟩)), .iface 218 (.map (some (b + 2)))] 210 (0, 0))

def partsFoot (b : Nat) (cv gv : Value) (k : Nat) : Prop := (b ≤ k ∧ k ≤ b + 3) ∨ cv.ownBlock = some k ∨ gv.ownBlock = some k

theorem PartsAt.congr {w w' : World} {b : Nat} {cv gv : Value} {ps : List Pane} (h : PartsAt w b cv gv ps) (hb : ∀ k, partsFoot b cv gv k → w'.heap[k]? = w.heap[k]?) : PartsAt w' b cv gv ps := by
  obtain ⟨cm, gg, h1, h2, h3⟩ := h.stacks
  exact ⟨(hb b (.inl (by omega))).trans h.tot, (hb _ (.inl (by omega))).trans h.bnd, ⟨cm, gg, h1.congr (fun k hk => hb k (.inr (.inl hk))), h2.congr (fun k hk => hb k (.inr (.inr hk))), h3⟩, h.apart, h.tags.congr (hb _ (.inl (by omega))), (hb _ (.inl (by omega))).trans h.all⟩

theorem PartsAt.kind {w : World} {b : Nat} {cv gv : Value} {ps : List Pane} (h : PartsAt w b cv gv ps) {k : Nat} (hk : partsFoot b cv gv k) : (k = b ∧ Cb w k 214) ∨ (k = b + 1 ∧ Cb w k 240) ∨ (k = b + 2 ∧ Mb w k) ∨ (k = b + 3 ∧ Cb w k 210) ∨ Cb w k 261 := by
  obtain ⟨cm, gg, h1, h2, h3⟩ := h.stacks
  rcases hk with ⟨k1, k2⟩ | hk | hk
  · have : k = b ∨ k = b + 1 ∨ k = b + 2 ∨ k = b + 3 := by omega
    rcases this with rfl | rfl | rfl | rfl
    · exact .inl ⟨rfl, Cb.of h.tot⟩
    · exact .inr (.inl ⟨rfl, Cb.of h.bnd⟩)
    · exact .inr (.inr (.inl ⟨rfl, h.tags.mb⟩))
    · exact .inr (.inr (.inr (.inl ⟨rfl, Cb.of h.all⟩)))
  · exact .inr (.inr (.inr (.inr (h1.cb hk))))
  · exact .inr (.inr (.inr (.inr (h2.cb hk))))

theorem PartsAt.lt {w : World} {b : Nat} {cv gv : Value} {ps : List Pane} (h : PartsAt w b cv gv ps) {k : Nat} (hk : partsFoot b cv gv k) : k < w.heap.size := by
  rcases h.kind hk with ⟨_, h⟩ | ⟨_, h⟩ | ⟨_, h⟩ | ⟨_, h⟩ | h
  · exact h.lt
  · exact h.lt
  · obtain ⟨e, c, h⟩ := h; exact blkLt h
  · exact h.lt
  · exact h.lt

/-- Where a run lies. -/
structure RunD where
  R : Nat
  pv : Value
  Ps : List (Nat × Nat)
  b : Nat
  cv : Value
  gv : Value

def RunD.foot (d : RunD) (k : Nat) : Prop := k = d.R ∨ d.pv.ownBlock = some k ∨ (∃ p ∈ d.Ps, k = p.1 ∨ k = p.2) ∨ partsFoot d.b d.cv d.gv k

/-- A run. -/
structure RunS where
  key : ByteArray
  ps : List Pane
  inside : Nat
  next : Int

structure RunAt (w : World) (d : RunD) (r : RunS) : Prop where
  run : w.heap[d.R]? = some (.cells (runCells r.key d.pv (r.inside : Int) r.next (.slice (some ⟨d.b + 3, 0, none⟩) 3 3)) 178 (0, 0))
  panes : Row w 208 1 d.pv (d.Ps.map fun p => .pointer (some ⟨p.1, 0, none⟩))
  len : d.Ps.length = r.ps.length
  each : ∀ (i : Nat) P M p, d.Ps[i]? = some (P, M) → r.ps[i]? = some p → PaneAt w P M p
  nodP : (d.Ps.map Prod.fst).Nodup
  nodM : (d.Ps.map Prod.snd).Nodup
  tcM : ∀ p ∈ d.Ps, p.2 ≠ d.b + 2
  ins : r.inside ≤ r.ps.length
  parts : PartsAt w d.b d.cv d.gv (r.ps.take r.inside)

theorem RunAt.at {w : World} {d : RunD} {r : RunS} (h : RunAt w d r) {q : Nat × Nat} (hq : q ∈ d.Ps) : ∃ p, PaneAt w q.1 q.2 p := by
  obtain ⟨i, hi, rfl⟩ := List.mem_iff_getElem.1 hq
  have hi2 : i < r.ps.length := by rw [← h.len]; exact hi
  exact ⟨r.ps[i], h.each i _ _ _ (by simp [hi]) (by simp [hi2])⟩

theorem RunAt.congr {w w' : World} {d : RunD} {r : RunS} (h : RunAt w d r) (hb : ∀ k, d.foot k → w'.heap[k]? = w.heap[k]?) : RunAt w' d r :=
  ⟨(hb _ (.inl rfl)).trans h.run, h.panes.congr (fun k hk => hb k (.inr (.inl hk))), h.len,
    fun i P M p h1 h2 => (h.each i P M p h1 h2).congr (hb P (.inr (.inr (.inl ⟨(P, M), List.mem_of_getElem? h1, .inl rfl⟩)))) (hb M (.inr (.inr (.inl ⟨(P, M), List.mem_of_getElem? h1, .inr rfl⟩)))),
    h.nodP, h.nodM, h.tcM, h.ins, h.parts.congr (fun k hk => hb k (.inr (.inr (.inr hk))))⟩

theorem RunAt.lt {w : World} {d : RunD} {r : RunS} (h : RunAt w d r) {k : Nat} (hk : d.foot k) : k < w.heap.size := by
  rcases hk with rfl | hk | ⟨q, hq, hk⟩ | hk
  · exact blkLt h.run
  · exact (h.panes.blk_lt hk).1
  · obtain ⟨p, hp⟩ := h.at hq
    rcases hk with rfl | rfl
    · exact blkLt hp.pane
    · exact hp.tags.lt
  · exact h.parts.lt hk

theorem RunAt.kept {w w' : World} {d : RunD} {r : RunS} {X : Nat → Prop} (h : RunAt w d r) (hk : Kept X w w') (hX : ∀ k, d.foot k → ¬ X k) : RunAt w' d r :=
  h.congr (fun k hf => hk.block k (h.lt hf) (hX k hf))

/-- A run's blocks are of these kinds. -/
def runKind (w : World) (k : Nat) : Prop := Mb w k ∨ ∃ t, Cb w k t ∧ (t = 178 ∨ t = 208 ∨ t = 207 ∨ t = 214 ∨ t = 240 ∨ t = 210 ∨ t = 261)

theorem RunAt.kinds {w : World} {d : RunD} {r : RunS} (h : RunAt w d r) {k : Nat} (hk : d.foot k) : runKind w k := by
  rcases hk with rfl | hk | ⟨q, hq, hk⟩ | hk
  · exact .inr ⟨_, Cb.of h.run, by simp⟩
  · exact .inr ⟨_, h.panes.cb hk, by simp⟩
  · obtain ⟨p, hp⟩ := h.at hq
    rcases hk with rfl | rfl
    · exact .inr ⟨_, Cb.of hp.pane, by simp⟩
    · exact .inl hp.tags.mb
  · rcases h.parts.kind hk with ⟨_, h⟩ | ⟨_, h⟩ | ⟨_, h⟩ | ⟨_, h⟩ | h
    · exact .inr ⟨_, h, by simp⟩
    · exact .inr ⟨_, h, by simp⟩
    · exact .inl h
    · exact .inr ⟨_, h, by simp⟩
    · exact .inr ⟨_, h, by simp⟩

theorem runKind.ne {w : World} {x y : Nat} {t : TypeId} (h : runKind w x) (hy : Cb w y t) (ht : t ≠ 178 ∧ t ≠ 208 ∧ t ≠ 207 ∧ t ≠ 214 ∧ t ≠ 240 ∧ t ≠ 210 ∧ t ≠ 261) : x ≠ y := by
  obtain ⟨t1, t2, t3, t4, t5, t6, t7⟩ := ht
  rcases h with h | ⟨u, h, hu⟩
  · exact fun e => hy.neM h e.symm
  · refine h.ne hy ?_
    rintro rfl
    rcases hu with e | e | e | e | e | e | e
    · exact t1 e
    · exact t2 e
    · exact t3 e
    · exact t4 e
    · exact t5 e
    · exact t6 e
    · exact t7 e

end Go.Proofs.YtcfngdnmpogaoaaGreat

/-
  The reference's 'tagged', walked.
-/
namespace Go.Proofs.YtcfngdnmpogaoaaGreat
open Go.RowKit

theorem u32_src (w : World) (X : Int) : Src Tryz.prog 1 68 (.slice (some ⟨w.heap.size, 0, none⟩) 1 1) 1 [.int .u32 X] (w.alloc (.cells #[.int .u32 X] 26)) :=
  Src.ofSlice _ Tryz.underlying68 ⟨w.heap.size, 0, none⟩ 1 1 _ rfl (one_new w _ _) (by simp [Value.oneCell'])

def gapB : Bool → Nat
  | true => 0
  | false => 1
/-- One tag more makes the list one longer at most. -/
theorem tagged_len (l : List Nat) (t : Nat) : (taggedL l t).length ≤ l.length + 1 := by
  have key : ∀ (l : List Nat) (st : List Nat × Bool), (l.foldl (tagStep t) st).1.length + gapB (l.foldl (tagStep t) st).2 ≤ st.1.length + gapB st.2 + l.length := by
    intro l
    induction l with
    | nil => intro st; exact Nat.le_refl _
    | cons x l ih =>
      intro st
      have h1 := ih (tagStep t st x)
      have h2 : (tagStep t st x).1.length + gapB (tagStep t st x).2 ≤ st.1.length + gapB st.2 + 1 := by
        obtain ⟨o, d⟩ := st
        simp only [tagStep]
        cases d <;> (repeat' split) <;> simp_all [gapB] <;> omega
      rw [List.foldl_cons, List.length_cons]; omega
  have := key l ([], false)
  unfold taggedL tagFold
  cases hb : (l.foldl (tagStep t) ([], false)).2 with
  | true => rw [hb] at this; simp [gapB] at this ⊢; omega
  | false => rw [hb] at this; simp [gapB] at this ⊢; omega

/-- Half way through the tags. -/
structure TgInv (w wr : World) (l : List Nat) (t : Nat) (n : Nat) (b d : Value) : Prop where
  row : Row wr 26 1 b ((tagFold t (l.take n)).1.map tagV)
  there : d = .bool (tagFold t (l.take n)).2
  blk : ∀ g, b.ownBlock = some g → w.heap.size ≤ g
  below : Below w.heap.size w wr

set_option maxRecDepth 20000 in
set_option maxHeartbeats 3200000 in
theorem tagged_any (v : Value) (l : List Nat) (t : Nat) (w : World) (h : Row w 26 1 v (l.map tagV)) (hl : l.length ≤ 1000000000) :
    Calls Tryz.prog 161 #[v, tagV t] w fun e w' => ∃ v', e = .returned v' ∧ Row w' 26 1 v' ((taggedL l t).map tagV) ∧ (∀ g, v'.ownBlock = some g → w.heap.size ≤ g) ∧ Below w.heap.size w w' := by
  obtain ⟨i, hi, hz0, hz1, hz2⟩ := info_parts info42
  have HR : Hid (Row w 26 1 v (l.map tagV)) := h
  obtain ⟨va, vc, hv, hvc⟩ := h.slice
  rw [List.length_map] at hv hvc
  obtain ⟨T, hT⟩ : ∃ T : Int, T = (t : Int) := ⟨_, rfl⟩
  have HT : Hid (T = (t : Int)) := hT
  have eT : tagV t = .int .u32 T := by rw [hT]
  rw [eT]
  clear h hT eT
  subst hv
  go_enter Tryz.func161, Tryz.ntmps161
  go_wp2
  go_loopw [5, 6, 7] (fun b d c wr => ∃ (n : Nat), n ≤ l.length ∧ c = .int .i64 (n : Int) ∧ TgInv w wr l t n b d) (fun _ _ c _ => l.length - (intOf c).toNat)
  case atStart => exact ⟨0, Nat.zero_le _, rfl, Row.nil _ _ _, rfl, fun g hg => by simp [Value.ownBlock] at hg, Below.refl _ _⟩
  case round =>
    obtain ⟨n, hn, rfl, hI⟩ := hrel
    have HI : Hid (TgInv w wr l t n u5 u6) := hI
    have hd := hI.there
    subst hd
    by_cases hlt : n < l.length
    · have hx : l[n]? = some l[n] := List.getElem?_eq_getElem hlt
      have hfs := tagFold_take t l n hlt
      generalize l[n] = x at *
      obtain ⟨gv, ov, nv, cv, hv, hnv, -⟩ := HR.out.shape (by intro e; have := congrArg List.length e; simp at this; rw [this] at hlt; simp at hlt)
      simp only [Value.slice.injEq] at hv
      obtain ⟨rfl, rfl, rfl⟩ := hv
      have hlen := tagFold_len t (l.take n)
      rw [List.length_take] at hlen
      have hr := hI.row
      have hb := hI.blk
      have hB := hI.below
      have hBr := hB.size
      have HB : Hid (Below w.heap.size w wr) := hB
      have c0 : wr.cell? ⟨gv, ov + n, none⟩ = some (.int .u32 (x : Int)) := by
        have := HR.out.cell n (by omega)
        rw [List.getElem?_map, hx] at this
        rw [hB.cell (show (⟨gv, ov + n, none⟩ : Addr).block < _ from (HR.out.blk_lt rfl).1)]; simpa using this
      obtain ⟨X, hX⟩ : ∃ X : Int, X = (x : Int) := ⟨_, rfl⟩
      have HX : Hid (X = (x : Int)) := hX
      rw [← hX] at c0
      have HF : Hid (tagFold t (l.take (n + 1)) = tagStep t (tagFold t (l.take n)) x) := hfs
      clear hfs hI hx hX
      have hnl : (n : Int) < (l.length : Int) := by omega
      have hwn : IntKind.i64.wrap ((n : Int) + 1) = (n : Int) + 1 := by rw [IntKind.wrap_i64]; omega
      generalize hst : tagFold t (l.take n) = st at *
      obtain ⟨o, d⟩ := st
      simp only at *
      have hol : (o.map tagV).length = o.length := by simp
      have hol2 : o.length ≤ 2 * n := by omega
      clear hlen
      have HO : Hid (tagFold t (l.take n) = (o, d)) := hst
      clear hst
      generalize hLL : o.map tagV = L at *
      have HLL : Hid (o.map tagV = L) := hLL
      clear hLL
      by_cases h1 : t ≤ x ∧ d = false
      · obtain ⟨h1, rfl⟩ := h1
        have hTX : T ≤ X := by rw [HT.out, HX.out]; omega
        go_wp2_with (at_builtin; go_must (refine wpList_append _ rfl _ _ _ _ rfl 26 i (.int .u32 0) 1 4 Tryz.underlying68 hi hz0 hz1 hz2 rfl Nat.one_pos u5 L rfl (hr.alloc _) (.slice (some ⟨wr.heap.size, 0, none⟩) 1 1) 1 [.int .u32 T] rfl (u32_src wr T) Nat.one_pos ?h63 ?hby ?next))
        case h63 => rw [hol]; simp only [maxLen]; omega
        case hby => rw [hol]; omega
        intro v1 W1 ha
        have HA : Hid (App (wr.alloc (.cells #[.int .u32 T] 26)) W1 26 1 u5 v1 L [.int .u32 T]) := ha
        have hb1 : Below w.heap.size wr W1 := ((Below.refl _ wr).alloc hBr _).trans (ha.below hb (by simp; omega))
        have HB1 : Hid (Below w.heap.size wr W1) := hb1
        have hblk1 := ha.blk hb (by simp; omega)
        have c1 : W1.cell? ⟨gv, ov + n, none⟩ = some (.int .u32 X) := by
          rw [hb1.cell (show (⟨gv, ov + n, none⟩ : Addr).block < _ from (HR.out.blk_lt rfl).1)]; exact c0
        have hr1 := ha.row
        clear ha hb1 c0
        by_cases h2 : x = t
        · have hXT : X = T := by rw [HT.out, HX.out, h2]
          subst hXT
          go_wp2_with fail
          go_roundw
          case rel =>
            refine ⟨n + 1, by omega, by go_num, ?_, ?_, hblk1, HB.out.trans HB1.out⟩
            · rw [HF.out, show tagStep t (o, false) x = (o ++ [t], true) from by simp [tagStep, h2], List.map_append, HLL.out, List.map_cons, List.map_nil, tagV, ← HT.out]; exact hr1
            · rw [HF.out, show tagStep t (o, false) x = (o ++ [t], true) from by simp [tagStep, h2]]
          case measure => simp [intOf]; omega
        · have hXT : ¬ X = T := by rw [HT.out, HX.out]; omega
          have hol1 : (L ++ [Value.int .u32 T]).length = o.length + 1 := by simp [hol]
          have hB1s := HB1.out.size
          generalize hL1 : L ++ [Value.int .u32 T] = L1 at *
          have HL1 : Hid (L ++ [Value.int .u32 T] = L1) := hL1
          clear hL1 HA
          go_wp2_with (at_builtin; go_must (refine wpList_append _ rfl _ _ _ _ rfl 26 i (.int .u32 0) 1 4 Tryz.underlying68 hi hz0 hz1 hz2 rfl Nat.one_pos v1 L1 rfl (hr1.alloc _) (.slice (some ⟨W1.heap.size, 0, none⟩) 1 1) 1 [.int .u32 X] rfl (u32_src W1 X) Nat.one_pos ?h63b ?hbyb ?nextb))
          case h63b => rw [hol1]; simp only [maxLen]; omega
          case hbyb => rw [hol1]; omega
          intro v2 W2 ha
          have hb2 : Below w.heap.size W1 W2 := ((Below.refl _ W1).alloc (by omega) _).trans (ha.below hblk1 (by simp; omega))
          have HB2 : Hid (Below w.heap.size W1 W2) := hb2
          have hblk2 := ha.blk hblk1 (by simp; omega)
          have hr2 := ha.row
          clear ha hb2 c1
          go_wp2_with fail
          go_roundw
          case rel =>
            refine ⟨n + 1, by omega, by go_num, ?_, ?_, hblk2, (HB.out.trans HB1.out).trans HB2.out⟩
            · rw [HF.out, show tagStep t (o, false) x = ((o ++ [t]) ++ [x], true) from by simp [tagStep, h1, h2], List.map_append, List.map_append, HLL.out, List.map_cons, List.map_nil, List.map_cons, List.map_nil, tagV, tagV, ← HT.out, ← HX.out, HL1.out]; exact hr2
            · rw [HF.out, show tagStep t (o, false) x = ((o ++ [t]) ++ [x], true) from by simp [tagStep, h1, h2]]
          case measure => simp [intOf]; omega
      · have hno : (decide (T ≤ X) && !d) = false := by
          cases d with
          | true => simp
          | false =>
            have : ¬ T ≤ X := by rw [HT.out, HX.out]; intro hh; exact h1 ⟨by omega, rfl⟩
            simp [this]
        by_cases h2 : x = t
        · have hXT : X = T := by rw [HT.out, HX.out, h2]
          subst hXT
          have hdt : d = true := by
            cases d with
            | true => rfl
            | false => exact absurd ⟨by omega, rfl⟩ h1
          subst hdt
          clear hno
          go_wp2_with fail
          go_roundw
          case rel =>
            refine ⟨n + 1, by omega, by go_num, ?_, ?_, hb, HB.out⟩
            · rw [HF.out, show tagStep t (o, true) x = (o, true) from by simp [tagStep, h2], HLL.out]; exact hr
            · rw [HF.out, show tagStep t (o, true) x = (o, true) from by simp [tagStep, h2]]
          case measure => simp [intOf]; omega
        · have hXT : ¬ X = T := by rw [HT.out, HX.out]; omega
          have hst : tagStep t (o, d) x = (o ++ [x], d) := by
            simp only [tagStep]
            rw [if_neg h1, if_pos h2]
          have HS : Hid (tagStep t (o, d) x = (o ++ [x], d)) := hst
          clear hst
          have hcase : d = true ∨ ¬ T ≤ X := by
            cases d with
            | true => exact .inl rfl
            | false => exact .inr (by intro hh; simp [hh] at hno)
          clear hno
          by_cases hTX : T ≤ X
          · have hdt : d = true := by
              rcases hcase with h | h
              · exact h
              · exact absurd hTX h
            subst hdt
            clear hcase
            go_wp2_with (at_builtin; go_must (refine wpList_append _ rfl _ _ _ _ rfl 26 i (.int .u32 0) 1 4 Tryz.underlying68 hi hz0 hz1 hz2 rfl Nat.one_pos u5 L rfl (hr.alloc _) (.slice (some ⟨wr.heap.size, 0, none⟩) 1 1) 1 [.int .u32 X] rfl (u32_src wr X) Nat.one_pos ?h63c ?hbyc ?nextc))
            case h63c => rw [hol]; simp only [maxLen]; omega
            case hbyc => rw [hol]; omega
            intro v1 W1 ha
            have HB1 : Hid (Below w.heap.size wr W1) := ((Below.refl _ wr).alloc hBr _).trans (ha.below hb (by simp; omega))
            have hblk1 := ha.blk hb (by simp; omega)
            have hr1 := ha.row
            clear ha c0
            go_wp2_with fail
            go_roundw
            case rel =>
              refine ⟨n + 1, by omega, by go_num, ?_, ?_, hblk1, HB.out.trans HB1.out⟩
              · rw [HF.out, HS.out, List.map_append, HLL.out, List.map_cons, List.map_nil, tagV, ← HX.out]; exact hr1
              · rw [HF.out, HS.out]
            case measure => simp [intOf]; omega
          · clear hcase
            go_wp2_with (at_builtin; go_must (refine wpList_append _ rfl _ _ _ _ rfl 26 i (.int .u32 0) 1 4 Tryz.underlying68 hi hz0 hz1 hz2 rfl Nat.one_pos u5 L rfl (hr.alloc _) (.slice (some ⟨wr.heap.size, 0, none⟩) 1 1) 1 [.int .u32 X] rfl (u32_src wr X) Nat.one_pos ?h63d ?hbyd ?nextd))
            case h63d => (try rw [hol]); simp only [maxLen]; omega
            case hbyd => (try rw [hol]); omega
            intro v1 W1 ha
            have HB1 : Hid (Below w.heap.size wr W1) := ((Below.refl _ wr).alloc hBr _).trans (ha.below hb (by simp; omega))
            have hblk1 := ha.blk hb (by simp; omega)
            have hr1 := ha.row
            clear ha c0
            go_wp2_with fail
            go_roundw
            case rel =>
              refine ⟨n + 1, by omega, by go_num, ?_, ?_, hblk1, HB.out.trans HB1.out⟩
              · rw [HF.out, HS.out, List.map_append, HLL.out, List.map_cons, List.map_nil, tagV, ← HX.out]; exact hr1
              · rw [HF.out, HS.out]
            case measure => simp [intOf]; omega
    · have hnl : n = l.length := by omega
      subst hnl
      have hr := hI.row
      have hb := hI.blk
      have hB := hI.below
      have hBr := hB.size
      have HB : Hid (Below w.heap.size w wr) := hB
      have hlen := tagFold_len t l
      rw [List.take_length] at hr
      have HF : Hid (taggedL l t = if (tagFold t l).2 then (tagFold t l).1 else (tagFold t l).1 ++ [t]) := rfl
      have hTk : tagFold t (l.take l.length) = tagFold t l := by rw [List.take_length]
      rw [hTk] at *
      clear hTk
      generalize tagFold t l = st at *
      obtain ⟨o, d⟩ := st
      simp only at *
      cases d with
      | true =>
        go_wp2_with fail
        go_ret
        refine ⟨_, rfl, ?_, hb, HB.out⟩
        rw [HF.out]; exact hr
      | false =>
        have hol : (o.map tagV).length = o.length := by simp
        generalize hLL : o.map tagV = L at *
        have HLL : Hid (o.map tagV = L) := hLL
        clear hLL
        go_wp2_with (at_builtin; go_must (refine wpList_append _ rfl _ _ _ _ rfl 26 i (.int .u32 0) 1 4 Tryz.underlying68 hi hz0 hz1 hz2 rfl Nat.one_pos u5 L rfl (hr.alloc _) (.slice (some ⟨wr.heap.size, 0, none⟩) 1 1) 1 [.int .u32 T] rfl (u32_src wr T) Nat.one_pos ?h63e ?hbye ?nexte))
        case h63e => rw [hol]; simp only [maxLen]; omega
        case hbye => rw [hol]; omega
        intro v1 W1 ha
        have HB1 : Hid (Below w.heap.size wr W1) := ((Below.refl _ wr).alloc hBr _).trans (ha.below hb (by simp; omega))
        have hblk1 := ha.blk hb (by simp; omega)
        have hr1 := ha.row
        clear ha
        go_wp2_with fail
        go_ret
        refine ⟨_, rfl, ?_, hblk1, HB.out.trans HB1.out⟩
        rw [HF.out]
        simp only [Bool.false_eq_true, if_false]
        rw [List.map_append, HLL.out, List.map_cons, List.map_nil, tagV, ← HT.out]; exact hr1
end Go.Proofs.YtcfngdnmpogaoaaGreat

/-
  Searches among runs.
-/
namespace Go.Proofs.YtcfngdnmpogaoaaGreat
open Go.RowKit Go.MuLone

def runPtrs (Rs : List Nat) : List Value := Rs.map fun R => .pointer (some ⟨R, 0, none⟩)
theorem runPtrs_len (Rs : List Nat) : (runPtrs Rs).length = Rs.length := by simp [runPtrs]

set_option maxRecDepth 20000 in
set_option maxHeartbeats 1600000 in
theorem indexFunc_E (B : Nat) (Rs : List Nat) (q : Nat → Bool) (sv : Value) (w : World) (hrow : Row w 150 1 sv (runPtrs Rs)) (hlen : Rs.length ≤ 4611686018427387904)
    (hf : ∀ (m R : Nat), R ∈ Rs → Calls Tryz.prog 142 #[.pointer (some ⟨R, 0, none⟩), .pointer (some ⟨B, 0, none⟩)] (w.drewN m) fun e w' => e = .returned (.bool (q R)) ∧ ∃ m', w' = w.drewN m') :
    Calls Tryz.prog 160 #[sv, .func (.func 142) #[] #[.pointer (some ⟨B, 0, none⟩)]] w fun e w' => ((∃ i : Nat, e = .returned (.int .i64 (i : Int)) ∧ (∃ R, Rs[i]? = some R ∧ q R = true) ∧ ∀ (j : Nat) R, j < i → Rs[j]? = some R → q R = false) ∨ (e = .returned (.int .i64 (-1)) ∧ ∀ R ∈ Rs, q R = false)) ∧ ∃ m, w' = w.drewN m := by
  by_cases hR : Rs = []
  · subst hR
    obtain ⟨a, c, rfl, -⟩ := hrow.slice
    go_enter Tryz.func160, Tryz.ntmps160
    simp only [runPtrs, List.map_nil, List.length_nil]
    go_wp2
    refine wp_loop_rounds 1 ?_
    rw [rounds_succ]
    go_wp2
    go_ret
    exact ⟨.inr ⟨rfl, fun R hR => by simp at hR⟩, 0, rfl⟩
  · obtain ⟨g, o, n, c, rfl, hn, hnc⟩ := hrow.shape (by unfold runPtrs; simpa using hR)
    have hn' : n = Rs.length := by unfold runPtrs at hn; simp at hn; omega
    subst hn'
    have HF : Hid (∀ (m R : Nat), R ∈ Rs → Calls Tryz.prog 142 #[.pointer (some ⟨R, 0, none⟩), .pointer (some ⟨B, 0, none⟩)] (w.drewN m) fun e w' => e = .returned (.bool (q R)) ∧ ∃ m', w' = w.drewN m') := hf
    have HC : Hid (∀ (m t R : Nat), Rs[t]? = some R → (w.drewN m).cell? ⟨g, o + t, none⟩ = some (.pointer (some ⟨R, 0, none⟩))) := fun m t R ht => by
      have := hrow.cell t (by have := (List.getElem?_eq_some_iff.1 ht).1; omega)
      rw [runPtrs, List.getElem?_map, ht] at this
      rw [World.cell?_drewN]; exact this
    clear hf hrow hn hR
    go_enter Tryz.func160, Tryz.ntmps160
    go_wp2
    go_loopw [8] (fun i wr => ∃ k m : Nat, k ≤ Rs.length ∧ i = .int .i64 (k : Int) ∧ wr = w.drewN m ∧ Hid (∀ (j : Nat) R, j < k → Rs[j]? = some R → q R = false)) (fun i _ => Rs.length - (intOf i).toNat)
    case atStart => exact ⟨0, 0, Nat.zero_le _, rfl, rfl, fun j R h => by omega⟩
    case round =>
      obtain ⟨k, m, hk, rfl, rfl, HI⟩ := hrel
      by_cases hlt : k < Rs.length
      · have ht : Rs[k]? = some Rs[k] := List.getElem?_eq_getElem hlt
        have c0 := HC.out m k _ ht
        have hq := HF.out m Rs[k] (by simp)
        generalize hRk : Rs[k] = R at *
        have HT : Hid (Rs[k]? = some R) := ht
        clear ht hRk
        have hkn : (k : Int) < (Rs.length : Int) := by omega
        cases hqR : q R with
        | true =>
          rw [hqR] at hq
          have HQ : Hid (q R = true) := hqR
          clear hqR
          go_wp2_with fail
          refine hq.mono ?_
          rintro e W ⟨rfl, m', rfl⟩
          go_wp2
          go_ret
          exact ⟨.inl ⟨k, rfl, ⟨R, HT.out, HQ.out⟩, HI.out⟩, m', rfl⟩
        | false =>
          rw [hqR] at hq
          have HQ : Hid (q R = false) := hqR
          clear hqR
          go_wp2_with fail
          refine hq.mono ?_
          rintro e W ⟨rfl, m', rfl⟩
          go_wp2
          go_roundw
          case rel =>
            refine ⟨k + 1, m', by omega, by go_num, rfl, fun j R' hj hR' => ?_⟩
            by_cases hjk : j = k
            · subst hjk; rw [HT.out] at hR'; cases hR'; exact HQ.out
            · exact HI.out j R' (by omega) hR'
          case measure => simp [intOf]; omega
      · have hkn : ¬ ((k : Int) < (Rs.length : Int)) := by omega
        go_wp2
        go_ret
        refine ⟨.inr ⟨rfl, fun R hR => ?_⟩, m, rfl⟩
        obtain ⟨j, hj, rfl⟩ := List.mem_iff_getElem.1 hR
        exact HI.out j _ (by omega) (List.getElem?_eq_getElem hj)

set_option maxRecDepth 20000 in
set_option maxHeartbeats 1600000 in
theorem indexFunc_P (B : Nat) (Rs : List Nat) (q : Nat → Bool) (sv : Value) (w : World) (hrow : Row w 150 1 sv (runPtrs Rs)) (hlen : Rs.length ≤ 4611686018427387904)
    (hf : ∀ (m R : Nat), R ∈ Rs → Calls Tryz.prog 162 #[.pointer (some ⟨R, 0, none⟩), .pointer (some ⟨B, 0, none⟩)] (w.drewN m) fun e w' => e = .returned (.bool (q R)) ∧ ∃ m', w' = w.drewN m') :
    Calls Tryz.prog 160 #[sv, .func (.func 162) #[] #[.pointer (some ⟨B, 0, none⟩)]] w fun e w' => ((∃ i : Nat, e = .returned (.int .i64 (i : Int)) ∧ (∃ R, Rs[i]? = some R ∧ q R = true) ∧ ∀ (j : Nat) R, j < i → Rs[j]? = some R → q R = false) ∨ (e = .returned (.int .i64 (-1)) ∧ ∀ R ∈ Rs, q R = false)) ∧ ∃ m, w' = w.drewN m := by
  by_cases hR : Rs = []
  · subst hR
    obtain ⟨a, c, rfl, -⟩ := hrow.slice
    go_enter Tryz.func160, Tryz.ntmps160
    simp only [runPtrs, List.map_nil, List.length_nil]
    go_wp2
    refine wp_loop_rounds 1 ?_
    rw [rounds_succ]
    go_wp2
    go_ret
    exact ⟨.inr ⟨rfl, fun R hR => by simp at hR⟩, 0, rfl⟩
  · obtain ⟨g, o, n, c, rfl, hn, hnc⟩ := hrow.shape (by unfold runPtrs; simpa using hR)
    have hn' : n = Rs.length := by unfold runPtrs at hn; simp at hn; omega
    subst hn'
    have HF : Hid (∀ (m R : Nat), R ∈ Rs → Calls Tryz.prog 162 #[.pointer (some ⟨R, 0, none⟩), .pointer (some ⟨B, 0, none⟩)] (w.drewN m) fun e w' => e = .returned (.bool (q R)) ∧ ∃ m', w' = w.drewN m') := hf
    have HC : Hid (∀ (m t R : Nat), Rs[t]? = some R → (w.drewN m).cell? ⟨g, o + t, none⟩ = some (.pointer (some ⟨R, 0, none⟩))) := fun m t R ht => by
      have := hrow.cell t (by have := (List.getElem?_eq_some_iff.1 ht).1; omega)
      rw [runPtrs, List.getElem?_map, ht] at this
      rw [World.cell?_drewN]; exact this
    clear hf hrow hn hR
    go_enter Tryz.func160, Tryz.ntmps160
    go_wp2
    go_loopw [8] (fun i wr => ∃ k m : Nat, k ≤ Rs.length ∧ i = .int .i64 (k : Int) ∧ wr = w.drewN m ∧ Hid (∀ (j : Nat) R, j < k → Rs[j]? = some R → q R = false)) (fun i _ => Rs.length - (intOf i).toNat)
    case atStart => exact ⟨0, 0, Nat.zero_le _, rfl, rfl, fun j R h => by omega⟩
    case round =>
      obtain ⟨k, m, hk, rfl, rfl, HI⟩ := hrel
      by_cases hlt : k < Rs.length
      · have ht : Rs[k]? = some Rs[k] := List.getElem?_eq_getElem hlt
        have c0 := HC.out m k _ ht
        have hq := HF.out m Rs[k] (by simp)
        generalize hRk : Rs[k] = R at *
        have HT : Hid (Rs[k]? = some R) := ht
        clear ht hRk
        have hkn : (k : Int) < (Rs.length : Int) := by omega
        cases hqR : q R with
        | true =>
          rw [hqR] at hq
          have HQ : Hid (q R = true) := hqR
          clear hqR
          go_wp2_with fail
          refine hq.mono ?_
          rintro e W ⟨rfl, m', rfl⟩
          go_wp2
          go_ret
          exact ⟨.inl ⟨k, rfl, ⟨R, HT.out, HQ.out⟩, HI.out⟩, m', rfl⟩
        | false =>
          rw [hqR] at hq
          have HQ : Hid (q R = false) := hqR
          clear hqR
          go_wp2_with fail
          refine hq.mono ?_
          rintro e W ⟨rfl, m', rfl⟩
          go_wp2
          go_roundw
          case rel =>
            refine ⟨k + 1, m', by omega, by go_num, rfl, fun j R' hj hR' => ?_⟩
            by_cases hjk : j = k
            · subst hjk; rw [HT.out] at hR'; cases hR'; exact HQ.out
            · exact HI.out j R' (by omega) hR'
          case measure => simp [intOf]; omega
      · have hkn : ¬ ((k : Int) < (Rs.length : Int)) := by omega
        go_wp2
        go_ret
        refine ⟨.inr ⟨rfl, fun R hR => ?_⟩, m, rfl⟩
        obtain ⟨j, hj, rfl⟩ := List.mem_iff_getElem.1 hR
        exact HI.out j _ (by omega) (List.getElem?_eq_getElem hj)
end Go.Proofs.YtcfngdnmpogaoaaGreat

/-
  Is a key going on, and where?
-/
namespace Go.Proofs.YtcfngdnmpogaoaaGreat
open Go.RowKit Go.MuLone

/-- Are two keys one? -/
def keyEq (a b : ByteArray) : Bool := a.toList == b.toList
theorem keyEq_iff (a b : ByteArray) : keyEq a b = true ↔ a = b := by
  unfold keyEq
  rw [beq_iff_eq, ByteArray.toList_eq, ByteArray.toList_eq]
  constructor
  · intro h
    cases a; cases b
    simp only [ByteArray.mk.injEq]
    exact Array.toList_inj.1 h
  · rintro rfl; rfl
theorem keyEq_false (a b : ByteArray) : keyEq a b = false ↔ a ≠ b := by
  rw [← Bool.not_eq_true, keyEq_iff]

set_option maxHeartbeats 1600000 in
theorem placeOf1_any (R B : Nat) (k1 k2 : ByteArray) (w : World) (h0 : w.cell? ⟨R, 0, none⟩ = some (.string k1)) (h1 : w.cell? ⟨B, 0, none⟩ = some (.string k2)) :
    Calls Tryz.prog 162 #[.pointer (some ⟨R, 0, none⟩), .pointer (some ⟨B, 0, none⟩)] w fun e w' => e = .returned (.bool (keyEq k1 k2)) ∧ ∃ m, w' = w.drewN m := by
  go_enter Tryz.func162, Tryz.ntmps162
  go_wp2_with fail
  go_quiet (fail)
  go_wp2
  go_ret
  exact ⟨rfl, nq, rfl⟩

/-- A run's block and its key. -/
structure RunK where
  R : Nat
  key : ByteArray

def RunKs (w : World) (ks : List RunK) : Prop := (ks.map RunK.R).Nodup ∧ ∀ x ∈ ks, w.cell? ⟨x.R, 0, none⟩ = some (.string x.key)

theorem nodup_inj {α : Type} {f : α → Nat} {l : List α} (h : (l.map f).Nodup) {x y : α} (hx : x ∈ l) (hy : y ∈ l) (e : f x = f y) : x = y := by
  obtain ⟨i, hi, rfl⟩ := List.mem_iff_getElem.1 hx
  obtain ⟨j, hj, rfl⟩ := List.mem_iff_getElem.1 hy
  have hi2 : i < (l.map f).length := by simpa using hi
  have := (List.getElem?_inj hi2 h (i := i) (j := j)).1 (by rw [List.getElem?_map, List.getElem?_map, List.getElem?_eq_getElem hi, List.getElem?_eq_getElem hj]; simp [e])
  subst this; rfl

/-- Where a key stands among those that are going on. -/
def PlaceIs (ks : List RunK) (key : ByteArray) (z : Int) : Prop := (∃ i : Nat, z = (i : Int) ∧ ∃ x, ks[i]? = some x ∧ x.key = key) ∨ (z = -1 ∧ ∀ x ∈ ks, x.key ≠ key)

set_option maxRecDepth 20000 in
set_option maxHeartbeats 1600000 in
theorem placeOf_any (g : Nat) (r : SCells) (ks : List RunK) (key : ByteArray) (w : World) (h : SF w g r) (hrow : Row w 150 1 r.going (runPtrs (ks.map RunK.R))) (hk : RunKs w ks) (hl : ks.length ≤ 1000000000000) :
    Calls Tryz.prog 145 #[.pointer (some ⟨g, 0, none⟩), .string key] w fun e w' => ∃ z, e = .returned (.int .i64 z) ∧ PlaceIs ks key z ∧ Below w.heap.size w w' := by
  have hb : Below w.heap.size w (w.alloc (.cells #[.string key] 9)) := (Below.refl _ w).alloc (Nat.le_refl _) _
  have hbx := heap_alloc_new w (.cells #[.string key] 9)
  have h1 := h.below hb h.lt
  have hrow1 := hrow.below hb (fun k hk => (hrow.blk_lt hk).1)
  have hidx : Hid (Calls Tryz.prog 160 #[r.going, .func (.func 162) #[] #[.pointer (some ⟨w.heap.size, 0, none⟩)]] (w.alloc (.cells #[.string key] 9)) fun e w' => ∃ z, e = .returned (.int .i64 z) ∧ PlaceIs ks key z ∧ Below w.heap.size w w') := by
    refine (indexFunc_P w.heap.size (ks.map RunK.R) (fun R => ks.any fun x => decide (x.R = R) && keyEq x.key key) r.going _ hrow1 (by simp; omega) (fun m R hR => ?_)).mono ?_
    · obtain ⟨x, hx, rfl⟩ := List.mem_map.1 hR
      have hq : (ks.any fun y => decide (y.R = x.R) && keyEq y.key key) = keyEq x.key key := by
        rw [Bool.eq_iff_iff, List.any_eq_true]
        constructor
        · rintro ⟨y, hy, e⟩
          simp only [Bool.and_eq_true, decide_eq_true_eq] at e
          have := nodup_inj hk.1 hy hx e.1
          subst this; exact e.2
        · intro e
          exact ⟨x, hx, by simp [e]⟩
      have c0 := hk.2 x hx
      refine (placeOf1_any x.R w.heap.size x.key key _ (by rw [World.cell?_drewN, hb.cell (p := ⟨x.R, 0, none⟩) (World.block_lt_of_cell? w ⟨x.R, 0, none⟩ c0)]; exact c0) (by rw [World.cell?_drewN]; exact blkCell hbx rfl)).mono ?_
      rintro e w' ⟨rfl, m', rfl⟩
      exact ⟨by rw [hq], m + m', by simp⟩
    · rintro e w' ⟨hcase, m, rfl⟩
      have hbb : Below w.heap.size w ((w.alloc (.cells #[.string key] 9)).drewN m) := below_drewN hb m
      rcases hcase with ⟨i, rfl, ⟨R, hR, hq⟩, -⟩ | ⟨rfl, hall⟩
      · refine ⟨_, rfl, .inl ⟨i, rfl, ?_⟩, hbb⟩
        rw [List.getElem?_map] at hR
        cases hx : ks[i]? with
        | none => rw [hx] at hR; simp at hR
        | some x =>
          rw [hx] at hR
          simp only [Option.map_some, Option.some.injEq] at hR
          refine ⟨x, rfl, ?_⟩
          rw [List.any_eq_true] at hq
          obtain ⟨y, hy, e⟩ := hq
          simp only [Bool.and_eq_true, decide_eq_true_eq] at e
          have := nodup_inj hk.1 hy (List.mem_of_getElem? hx) (e.1.trans hR.symm)
          subst this
          exact (keyEq_iff _ _).1 e.2
      · refine ⟨_, rfl, .inr ⟨rfl, fun x hx e => ?_⟩, hbb⟩
        have := hall x.R (List.mem_map_of_mem hx)
        rw [List.any_eq_false] at this
        exact this x hx (by simp [(keyEq_iff _ _).2 e])
  have c48 : (w.alloc (.cells #[.string key] 9)).cell? ⟨g, 48, none⟩ = some r.going := h1.tailAt 2 rfl
  obtain ⟨ga, gc, hgv, -⟩ := hrow.slice
  clear h h1 hrow hrow1 hk hb hbx
  rw [hgv] at c48 hidx
  go_enter Tryz.func145, Tryz.ntmps145
  go_wp2_with fail
  refine hidx.out.mono ?_
  rintro e W ⟨z, rfl, hz, hb⟩
  have HZ : Hid (PlaceIs ks key z ∧ Below w.heap.size w W) := ⟨hz, hb⟩
  clear hz hb hidx
  go_wp2
  go_ret
  exact ⟨z, rfl, HZ.out.1, HZ.out.2⟩

/-- Is there no room for a key? -/
def fullFor (n : Nat) (keys : Int) (ks : List RunK) (key : ByteArray) : Bool := decide (keys ≤ (n : Int)) && !(ks.any fun x => keyEq x.key key)

set_option maxRecDepth 20000 in
set_option maxHeartbeats 1600000 in
theorem isFullFor_any (g : Nat) (r : SCells) (ks : List RunK) (key : ByteArray) (w : World) (h : SF w g r) (hrow : Row w 150 1 r.going (runPtrs (ks.map RunK.R))) (hk : RunKs w ks) (hl : ks.length ≤ 1000000000000) :
    Calls Tryz.prog 126 #[.pointer (some ⟨g, 0, none⟩), .string key] w fun e w' => e = .returned (.bool (fullFor ks.length r.keys ks key)) ∧ Below w.heap.size w w' := by
  have hP := placeOf_any g r ks key w.drew (h.congr rfl) (hrow.congr (fun _ _ => rfl)) hk hl
  have c48 : w.cell? ⟨g, 48, none⟩ = some r.going := h.tailAt 2 rfl
  have c5 : w.cell? ⟨g, 5, none⟩ = some (.int .i64 r.keys) := h.headAt 5 rfl
  obtain ⟨ga, gc, hgv, -⟩ := hrow.slice
  rw [runPtrs_len, List.length_map] at hgv
  rw [hgv] at c48
  clear h hrow hk hgv
  generalize hks : r.keys = K at *
  clear hks
  obtain ⟨n, hn⟩ : ∃ n, ks.length = n := ⟨_, rfl⟩
  rw [hn] at c48 hl ⊢
  clear hn
  by_cases hr : K ≤ (n : Int)
  · have hd : decide (K ≤ (n : Int)) = true := decide_eq_true hr
    have HP : Hid (Calls Tryz.prog 145 #[.pointer (some ⟨g, 0, none⟩), .string key] w.drew fun e w' => ∃ z, e = .returned (.int .i64 z) ∧ PlaceIs ks key z ∧ Below w.drew.heap.size w.drew w') := hP
    clear hP
    go_enter Tryz.func126, Tryz.ntmps126
    go_wp2_with fail
    refine wp_region_still_tail 14 (by kernel_rfl) (by kernel_rfl) ?_
    simp only [List.take_succ_cons, List.take_zero, List.drop_succ_cons, List.drop_zero]
    change wpStill Tryz.prog _ w.drew (fun a' => wpList Tryz.prog _ _ _ a' w.drew) _ _
    have c48 : w.drew.cell? ⟨g, 48, none⟩ = some (.slice ga n gc) := c48
    have c5 : w.drew.cell? ⟨g, 5, none⟩ = some (.int .i64 K) := c5
    have hB : Hid (Below w.heap.size w w.drew) := (Below.refl _ w).drew
    have hsz : Hid (w.drew.heap.size = w.heap.size) := rfl
    generalize w.drew = W1 at *
    repeat still_step
    refine wpStill_nil ?_
    clear c48 c5
    go_wp2_with fail
    refine HP.out.mono ?_
    rintro e W2 ⟨z, rfl, hz, hb⟩
    have HZ : Hid (PlaceIs ks key z) := hz
    have HB : Hid (Below w.heap.size w W2) := hB.out.trans (hb.mono (by rw [hsz.out]; exact Nat.le_refl _))
    clear hz hb HP
    go_wp2
    go_ret
    refine ⟨?_, HB.out⟩
    have e : fullFor n K ks key = decide (z < 0) := by
      unfold fullFor
      rw [hd, Bool.true_and]
      rcases HZ.out with ⟨i, rfl, x, hx, hxk⟩ | ⟨rfl, hall⟩
      · have : (ks.any fun x => keyEq x.key key) = true := List.any_eq_true.2 ⟨x, List.mem_of_getElem? hx, (keyEq_iff _ _).2 hxk⟩
        rw [this]; simp
      · have : (ks.any fun x => keyEq x.key key) = false := List.any_eq_false.2 (fun x hx => by rw [(keyEq_false _ _).2 (hall x hx)]; simp)
        rw [this]; rfl
    rw [e]; rfl
  · have hd : decide (K ≤ (n : Int)) = false := decide_eq_false hr
    clear hP
    have e : fullFor n K ks key = false := by unfold fullFor; rw [hd]; rfl
    rw [e]
    clear e
    go_enter Tryz.func126, Tryz.ntmps126
    go_wp2_with fail
    go_quiet (fail)
    go_wp2
    go_ret
    exact ⟨rfl, below_drewN (Below.refl _ w) nq⟩
end Go.Proofs.YtcfngdnmpogaoaaGreat
