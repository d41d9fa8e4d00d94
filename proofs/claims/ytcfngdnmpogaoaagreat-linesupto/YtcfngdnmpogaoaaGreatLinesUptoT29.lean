import Derived.Test.YtcfngdnmpogaoaaGreatLinesUptoT25
import Derived.Test.YtcfngdnmpogaoaaGreatLinesUptoT26
import Derived.Test.YtcfngdnmpogaoaaGreatLinesUptoT28

/-
  How many windows are finished, and one state on both sides: pure.
-/
namespace Go.Proofs.YtcfngdnmpogaoaaGreat
open Go.RowKit

theorem filter_two {α : Type} (p q r : α → Bool) (l : List α) (h1 : ∀ x, p x = true → r x = true) (h2 : ∀ x, q x = true → r x = true) (h3 : ∀ x, p x = true → q x = false) : (l.filter p).length + (l.filter q).length ≤ (l.filter r).length := by
  induction l with
  | nil => exact Nat.le_refl _
  | cons a l ih =>
    rw [List.filter_cons, List.filter_cons, List.filter_cons]
    cases hp : p a with
    | true =>
      rw [h1 a hp, h3 a hp]
      simp only [if_true, Bool.false_eq_true, if_false, List.length_cons]; omega
    | false =>
      cases hq : q a with
      | true =>
        rw [h2 a hq]
        simp only [if_true, Bool.false_eq_true, if_false, List.length_cons]; omega
      | false =>
        simp only [Bool.false_eq_true, if_false]
        split
        · rw [List.length_cons]; omega
        · exact ih

def endB (size slide lt : Int) (li : Bool) (t : Int) (j : Nat) : Bool := li && decide (startAt slide t j + size ≤ lt)
def cntW (size slide lt : Int) (li : Bool) (e : Ev) : Nat := ((List.range (winN size slide e.t)).filter (endB size slide lt li e.t)).length
def cntAll (size slide lt : Int) (li : Bool) (E : List Ev) : Nat := (E.map (cntW size slide lt li)).sum
def finN (size slide was line : Int) (had : Bool) (e : Ev) (n : Nat) : Nat := ((List.range n).filter (fun j => finB size was line had (startAt slide e.t j))).length

theorem evFin_cnt (size slide was line : Int) (had : Bool) (E : List Ev) (e : Ev) (n : Nat) (ws : List Win) : (evFin size slide was line had E e n ws).length ≤ ws.length + finN size slide was line had e n := by
  induction n with
  | zero => exact Nat.le_refl _
  | succ n ih =>
    unfold finN at *
    rw [evFin_succ, List.range_succ, List.filter_append, List.length_append]
    cases hb : finB size was line had (startAt slide e.t n) with
    | true =>
      have := place_len e.key (startAt slide e.t n) (winF e.key (startAt slide e.t n) size E) (evFin size slide was line had E e n ws)
      simp only [if_true, List.filter_cons, hb, List.filter_nil, List.length_cons, List.length_nil]
      omega
    | false =>
      simp only [Bool.false_eq_true, if_false, List.filter_cons, hb, List.filter_nil, List.length_nil]
      omega
theorem finAll_cnt (size slide was line : Int) (had : Bool) (E es : List Ev) : (finAll size slide was line had E es).length ≤ (es.map fun e => finN size slide was line had e (winN size slide e.t)).sum := by
  induction es using snoc_ind with
  | nil => simp [finAll]
  | snoc es e ih =>
    have e1 : finAll size slide was line had E (es ++ [e]) = evFin size slide was line had E e (winN size slide e.t) (finAll size slide was line had E es) := by
      unfold finAll; rw [List.foldl_append]; rfl
    rw [e1, List.map_append, List.sum_append]
    have := evFin_cnt size slide was line had E e (winN size slide e.t) (finAll size slide was line had E es)
    simp only [List.map_cons, List.map_nil, List.sum_cons, List.sum_nil]
    omega
theorem cnt_move (size slide was line : Int) (had : Bool) (h : had = true → was ≤ line) (e : Ev) : cntW size slide was had e + finN size slide was line had e (winN size slide e.t) ≤ cntW size slide line true e := by
  refine filter_two _ _ _ _ (fun j hj => ?_) (fun j hj => ?_) (fun j hj => ?_)
  · unfold endB at *
    simp only [Bool.and_eq_true, decide_eq_true_eq] at hj ⊢
    have := h hj.1
    exact ⟨trivial, by omega⟩
  · unfold endB finB at *
    simp only [Bool.and_eq_true, decide_eq_true_eq] at hj ⊢
    exact ⟨trivial, hj.1⟩
  · unfold endB finB at *
    simp only [Bool.and_eq_true, decide_eq_true_eq] at hj
    rw [hj.1]
    have : ¬ was < startAt slide e.t j + size := by omega
    simp [this]
theorem cntAll_move (size slide was line : Int) (had : Bool) (h : had = true → was ≤ line) (E : List Ev) : cntAll size slide was had E + (E.map fun e => finN size slide was line had e (winN size slide e.t)).sum ≤ cntAll size slide line true E := by
  unfold cntAll
  induction E with
  | nil => simp
  | cons e E ih =>
    have := cnt_move size slide was line had h e
    simp only [List.map_cons, List.sum_cons]; omega
theorem cntAll_le (size slide lt : Int) (li : Bool) (E : List Ev) (h1 : 1 ≤ slide) (h2 : size ≤ 4096 * slide) : cntAll size slide lt li E ≤ 4097 * E.length := by
  unfold cntAll
  induction E with
  | nil => simp
  | cons e E ih =>
    have h3 : cntW size slide lt li e ≤ winN size slide e.t := by
      unfold cntW
      have := List.length_filter_le (endB size slide lt li e.t) (List.range (winN size slide e.t))
      rw [List.length_range] at this; exact this
    have := winN_le size slide e.t h1 h2
    simp only [List.map_cons, List.sum_cons, List.length_cons]; omega
theorem cntAll_snoc (size slide lt : Int) (li : Bool) (E : List Ev) (e : Ev) : cntAll size slide lt li E ≤ cntAll size slide lt li (E ++ [e]) := by
  unfold cntAll
  rw [List.map_append, List.sum_append]; omega

/-- One state on both sides. -/
structure RefRel (c : Cf) (sp : Sp) (rs : List (List UInt8)) (r : RCells) (ds : Nat) : Prop where
  size : r.size = c.size
  slide : r.slide = c.slide
  late : r.late = c.late
  keys : r.keys = c.keys
  line : r.line = sp.lt
  lined : r.lined = sp.li
  n : r.n = sp.n
  src : SrcRels c.late sp.src r.src
  rl : rs.length = 8
  rest : ∀ (i : Nat) t l, r.src[i]? = some t → rs[i]? = some l → t.broken = false → t.rest.data.toList = l
  done : ds ≤ cntAll c.size c.slide sp.lt sp.li sp.E
  ok : ∀ e ∈ sp.E, evOk e
  shut : ∀ (i : Nat) s, sp.src[i]? = some s → s.opened = false → s.broken = false ∧ s.is = false ∧ rs[i]? = some []

theorem line_line (late : Int) (src : List SrcS) (lt : Int) (li : Bool) : lineF late src (lineF late src lt li).1 (lineF late src lt li).2 = lineF late src lt li := by
  unfold lineF
  by_cases h : (leastS src).2 = true
  · simp only [h, if_true]
    by_cases h2 : li = false ∨ lt < (leastS src).1 - late
    · rw [if_pos h2, if_neg (by rintro (hh | hh); (cases hh); omega)]
    · rw [if_neg h2, if_neg (fun hh => by
        rcases hh with hh | hh
        · cases hh
        · exact h2 (.inr hh))]
  · rw [if_neg h, if_neg h]
theorem Sp.line_line (c : Cf) (s : Sp) : (s.line c).line c = s.line c := by
  have := Proofs.YtcfngdnmpogaoaaGreat.line_line c.late s.src s.lt s.li
  unfold Sp.line
  simp only [this]

theorem modify_at {α : Type} {l : List α} {n : Nat} {s : α} (f : α → α) (hs : l[n]? = some s) : (l.modify n f)[n]? = some (f s) := by rw [List.getElem?_modify, hs]; simp
theorem modify_ne {α : Type} {l : List α} {n i : Nat} (f : α → α) (h : ¬ n = i) : (l.modify n f)[i]? = l[i]? := by rw [List.getElem?_modify]; simp [h]
theorem SrcRels.raise {late : Int} {ss : List SrcS} {ts : List RSrc} (h : SrcRels late ss ts) (n : Nat) (s : SrcS) (t : RSrc) (hs : ss[n]? = some s) (ht : ts[n]? = some t) (ho : s.opened = true) (hb : s.broken = false) (x : Int) : SrcRels late (ss.modify n (raisedS x)) (ts.set n (rRaise (x - late) t)) := by
  refine ⟨by rw [List.length_modify, List.length_set]; exact h.1, fun i a b ha hbb => ?_⟩
  rw [List.getElem?_set] at hbb
  by_cases hi : n = i
  · subst hi
    have hl : n < ts.length := (List.getElem?_eq_some_iff.1 ht).1
    rw [if_pos rfl, if_pos hl] at hbb
    rw [modify_at _ hs] at ha
    simp only [Option.some.injEq] at ha hbb
    subst ha; subst hbb
    have hr := h.2 n s t hs ht
    obtain ⟨r1, r2⟩ := hr.re ho hb
    have hc : (t.reached = false ∨ t.reach < x - late) ↔ (s.is = false ∨ s.time < x) := by
      rw [r1]
      cases hi : s.is with
      | false => simp
      | true => rw [r2 hi]; simp
    unfold raisedS rRaise
    by_cases hy : s.is = false ∨ s.time < x
    · rw [if_pos hy, if_pos (hc.2 hy)]
      exact ⟨hr.op, hr.br, fun hh => by rcases hh with hh | hh; (simp only [ho] at hh; cases hh); (simp only [hb] at hh; cases hh), fun _ _ => ⟨rfl, fun _ => rfl⟩⟩
    · rw [if_neg hy, if_neg (fun hh => hy (hc.1 hh))]
      exact hr
  · rw [modify_ne _ hi] at ha
    rw [if_neg hi] at hbb
    exact h.2 i a b ha hbb
/-- How much was read. -/
def heft (sp : Sp) (rs : List (List UInt8)) : Nat := 26 * sp.E.length + (rs.map List.length).sum
theorem sum_set (rs : List (List UInt8)) (n : Nat) (l x : List UInt8) (h : rs[n]? = some l) : ((rs.set n x).map List.length).sum + l.length = (rs.map List.length).sum + x.length := by
  induction rs generalizing n with
  | nil => simp at h
  | cons a rs ih =>
    cases n with
    | zero =>
      simp only [List.getElem?_cons_zero, Option.some.injEq] at h
      subst h
      simp only [List.set_cons_zero, List.map_cons, List.sum_cons]; omega
    | succ n =>
      have := ih n (by simpa using h)
      simp only [List.set_cons_succ, List.map_cons, List.sum_cons]; omega
theorem feedF_heft (c : Cf) (n : Nat) (f : Nat) (sp : Sp) (L : List UInt8) : 26 * (feedF c n f sp L).1.E.length + (feedF c n f sp L).2.length ≤ 26 * sp.E.length + L.length := by
  induction f generalizing sp L with
  | zero => exact Nat.le_refl _
  | succ f ih =>
    rw [feedF]
    cases hs : unfShort L with
    | true => exact Nat.le_refl _
    | false =>
      cases ho : unfOk L with
      | false =>
        simp only [Bool.false_eq_true, if_false, List.length_nil]
        show 26 * sp.E.length + 0 ≤ _
        omega
      | true =>
        simp only [Bool.false_eq_true, if_false, if_true]
        refine Nat.le_trans (ih _ _) ?_
        have hlen : (L.getD 0 0).toNat + 3 ≤ L.length := by
          unfold unfShort at hs
          simp only [decide_eq_false_iff_not] at hs; omega
        have hb : itemOfB (unfBody L) = true := by unfold unfOk at ho; simp at ho; exact ho.2
        have hbl : (unfBody L).length = (L.getD 0 0).toNat := by
          unfold unfBody; rw [List.length_take, List.length_drop]; omega
        rw [List.length_drop]
        unfold itemF
        by_cases h1 : (unfBody L).getD 0 0 = 1
        · rw [if_pos h1, line_E]
          have he : isEvent (unfBody L) = true := by rw [itemOfB, if_pos h1] at hb; exact hb
          unfold isEvent at he
          simp only [Bool.and_eq_true, decide_eq_true_eq] at he
          have := event0_len c sp n (evOf (unfBody L))
          omega
        · rw [if_neg h1, line_E, mark0_E]; omega
end Go.Proofs.YtcfngdnmpogaoaaGreat

/-
  The reference's flow at rest, beside the pure one; its 'lines'.
-/
namespace Go.Proofs.YtcfngdnmpogaoaaGreat
open Go.RowKit

/-- A config that is one. -/
structure CfOk (c : Cf) : Prop where
  a1 : 1 ≤ c.slide
  a2 : c.slide ≤ c.size
  a3 : c.size ≤ 1099511627776
  a4 : 0 ≤ c.late
  a5 : c.late ≤ 1099511627776
  a6 : c.size ≤ 4096 * c.slide

/-- The reference's flow, and what is its own. -/
structure RefOn (w : World) (g : Nat) (r : RCells) (E : List Ev) (ds : List WinX) (G : Nat → Prop) : Prop where
  rev : REv w g r E
  done : WinsAt w r.done ds 0
  me : G g
  ev : ∀ k, r.events.ownBlock = some k → G k
  dn : ∀ k, r.done.ownBlock = some k → G k
  tg : ∀ x ∈ ds, ∀ k, x.tv.ownBlock = some k → G k

theorem REv.kept {w w' : World} {g : Nat} {r : RCells} {E : List Ev} {X : Nat → Prop} (h : REv w g r E) (hk : Kept X w w') (hg : ¬ X g) (he : ∀ k, r.events.ownBlock = some k → ¬ X k) : REv w' g r E := ⟨h.rf.congr (hk.block g h.rf.lt hg), h.ev.kept hk he⟩
theorem WinsAt.kept {w w' : World} {v : Value} {xs : List WinX} {X : Nat → Prop} {B : Nat} (h : WinsAt w v xs B) (hk : Kept X w w') (hv : ∀ k, v.ownBlock = some k → ¬ X k) (ht : ∀ x ∈ xs, ∀ k, x.tv.ownBlock = some k → ¬ X k) : WinsAt w' v xs B :=
  ⟨h.row.kept hk hv, fun x hx => ⟨(h.tags x hx).1.kept hk (ht x hx), (h.tags x hx).2⟩, h.blk, h.void⟩
theorem RefOn.kept {w w' : World} {g : Nat} {r : RCells} {E : List Ev} {ds : List WinX} {G X : Nat → Prop} (h : RefOn w g r E ds G) (hk : Kept X w w') (hX : ∀ k, G k → ¬ X k) : RefOn w' g r E ds G :=
  ⟨h.rev.kept hk (hX _ h.me) (fun k hk => hX k (h.ev k hk)), h.done.kept hk (fun k hk => hX k (h.dn k hk)) (fun x hx k hk => hX k (h.tg x hx k hk)), h.me, h.ev, h.dn, h.tg⟩
theorem RefOn.mono {w : World} {g : Nat} {r : RCells} {E : List Ev} {ds : List WinX} {G G' : Nat → Prop} (h : RefOn w g r E ds G) (hG : ∀ k, G k → G' k) : RefOn w g r E ds G' :=
  ⟨h.rev, h.done, hG _ h.me, fun k hk => hG k (h.ev k hk), fun k hk => hG k (h.dn k hk), fun x hx k hk => hG k (h.tg x hx k hk)⟩

/-- The flow's own cells and events turned. -/
theorem RefOn.turn {w W : World} {g : Nat} {r r' : RCells} {E E' : List Ev} {ds : List WinX} {G : Nat → Prop} (h : RefOn w g r E ds G) (hr : REv W g r' E') (hd : r'.done = r.done) (hk : Kept (fun k => k = g ∨ r.events.ownBlock = some k) w W) (ho : ∀ k, r'.events.ownBlock = some k → r.events.ownBlock = some k ∨ w.heap.size ≤ k) : RefOn W g r' E' ds (Grown G w) ∧ Kept G w W := by
  have hdn : ∀ k, r.done.ownBlock = some k → ¬ (k = g ∨ r.events.ownBlock = some k) := fun k hkd hh => by
    rcases hh with rfl | hh
    · exact (h.done.row.cb hkd).ne (Cb.of h.rev.rf.blk) (by decide) rfl
    · exact (h.done.row.cb hkd).ne (h.rev.ev.cb hh) (by decide) rfl
  have htg : ∀ x ∈ ds, ∀ k, x.tv.ownBlock = some k → ¬ (k = g ∨ r.events.ownBlock = some k) := fun x hx k hkd hh => by
    rcases hh with rfl | hh
    · exact ((h.done.tags x hx).1.cb hkd).ne (Cb.of h.rev.rf.blk) (by decide) rfl
    · exact ((h.done.tags x hx).1.cb hkd).ne (h.rev.ev.cb hh) (by decide) rfl
  refine ⟨⟨hr, ?_, .inl h.me, fun k hk => ?_, fun k hk => .inl (h.dn k (by rw [← hd]; exact hk)), fun x hx k hk => .inl (h.tg x hx k hk)⟩, hk.mono (fun k _ hh => ?_)⟩
  · rw [hd]; exact h.done.kept hk hdn htg
  · rcases ho k hk with hh | hh
    · exact .inl (h.ev k hh)
    · exact .inr hh
  · rcases hh with rfl | hh
    · exact h.me
    · exact h.ev k hh

/-- The reference's flow beside the pure one, caught up. -/
def Ref (w : World) (g : Nat) (c : Cf) (sp : Sp) (rs : List (List UInt8)) (G : Nat → Prop) : Prop := ∃ r ds, RefOn w g r sp.E ds G ∧ RefRel c sp rs r ds.length ∧ sp.line c = sp

theorem lines_ref (w : World) (g : Nat) (c : Cf) (sp : Sp) (rs : List (List UInt8)) (G : Nat → Prop) (r : RCells) (ds : List WinX) (hc : CfOk c) (h : RefOn w g r sp.E ds G) (hr : RefRel c sp rs r ds.length) (hE : sp.E.length ≤ 200000) :
    Calls Tryz.prog 80 #[.pointer (some ⟨g, 0, none⟩)] w fun e w' => e = .returned (.tuple #[]) ∧ Ref w' g c (sp.line c) rs (Grown G w) ∧ Kept G w w' := by
  have hdl : ds.length ≤ 1000000000 := by
    have h1 := hr.done
    have h2 := cntAll_le c.size c.slide sp.lt sp.li sp.E hc.a1 hc.a6
    omega
  refine (lines_any g r sp.E ds w h.rev h.done hE hr.ok hdl (by rw [hr.slide]; exact hc.a1) (by rw [hr.slide, hr.size]; exact hc.a2) (by rw [hr.size]; exact hc.a3) (by rw [hr.slide, hr.size]; exact hc.a6)).mono ?_
  rintro e w' ⟨rfl, hh⟩
  obtain ⟨l1, l2⟩ := line_rel sp.E hr.src hr.line hr.lined
  rcases hh with ⟨h1, h2, h3⟩ | ⟨t, dv, xs, h1, h2, h3⟩
  · have hl : sp.line c = sp := by
      unfold Sp.line
      rw [l1 h1]
    rw [hl]
    exact ⟨rfl, ⟨r, ds, (h.kept (Kept.ofBelow h3 (fun _ => False)) (fun _ _ hh => hh)).mono (fun k hk => .inl hk), hr, hl⟩, Kept.ofBelow h3 _⟩
  · have hl := l2 t h1
    have hlt : (sp.line c).lt = t := by show (lineF c.late sp.src sp.lt sp.li).1 = t; rw [hl]
    have hli : (sp.line c).li = true := by show (lineF c.late sp.src sp.lt sp.li).2 = true; rw [hl]
    have hup : sp.li = true → sp.lt ≤ t := fun hi => by
      unfold lineF at hl
      split at hl
      · split at hl
        · rename_i hx
          rcases hx with hx | hx
          · rw [hi] at hx; cases hx
          · have := congrArg Prod.fst hl
            simp only at this; omega
        · have := congrArg Prod.fst hl
          simp only at this; omega
      · have := congrArg Prod.fst hl
        simp only at this; omega
    have hlen : xs.length ≤ (sp.E.map fun e => finN c.size c.slide sp.lt t sp.li e (winN c.size c.slide e.t)).sum := by
      have e1 : xs.length = (finAll r.size r.slide r.line t r.lined sp.E sp.E).length := by rw [← h3, List.length_map]
      rw [e1, hr.size, hr.slide, hr.line, hr.lined]
      exact finAll_cnt _ _ _ _ _ _ _
    have hmv := cntAll_move c.size c.slide sp.lt t sp.li hup sp.E
    have hdn := hr.done
    refine ⟨rfl, ⟨_, ds ++ xs, ⟨h2.rev, h2.done, .inl h.me, fun k hk => .inl (h.ev k hk), fun k hk => ?_, fun x hx k hk => ?_⟩, ⟨hr.size, hr.slide, hr.late, hr.keys, hlt.symm, hli.symm, hr.n, hr.src, hr.rl, hr.rest, ?_, hr.ok, hr.shut⟩, sp.line_line c⟩, h2.kept.mono (fun k _ hh => ?_)⟩
    · rcases h2.own k hk with hh | hh
      · exact .inl (h.dn k hh)
      · exact .inr hh
    · rcases h2.tags x hx with hh | hh
      · exact .inl (h.tg x hh k hk)
      · exact .inr (hh k hk)
    · rw [hlt, hli, List.length_append]
      show _ ≤ cntAll c.size c.slide t true sp.E
      omega
    · rcases hh with rfl | hh
      · exact h.me
      · exact h.dn k hh
end Go.Proofs.YtcfngdnmpogaoaaGreat
