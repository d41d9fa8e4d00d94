import Derived.Test.YtcfngdnmpogaoaaGreatLinesUptoT26

/-
  An item done, as numbers and a list of events; a source broken off.
-/
namespace Go.Proofs.YtcfngdnmpogaoaaGreat
open Go.RowKit Go.MuLone

/-- A flow that is as sp says: it lies in blocks of F; windows up to T have been told. -/
def FlowSp (w : World) (g : Nat) (lk : Int) (c : Cf) (sp : Sp) (us : List Value) (F : Nat → Prop) (T : Option Int) : Prop :=
  ∃ st, FlowIs w g lk st us F ∧ Mod st sp.E T ∧ SrcFits sp.src ∧ spOf st sp.E = sp ∧ cfOf st = c
theorem FlowSp.mono {w : World} {g : Nat} {lk : Int} {c : Cf} {sp : Sp} {us : List Value} {F F' : Nat → Prop} {T : Option Int} (h : FlowSp w g lk c sp us F T) (hF : ∀ k, F k → F' k) : FlowSp w g lk c sp us F' T := by
  obtain ⟨st, h1, h2⟩ := h; exact ⟨st, h1.mono hF, h2⟩
theorem FlowSp.below {w w' : World} {g : Nat} {lk : Int} {c : Cf} {sp : Sp} {us : List Value} {F : Nat → Prop} {T : Option Int} (h : FlowSp w g lk c sp us F T) (hb : Below w.heap.size w w') : FlowSp w' g lk c sp us F T := by
  obtain ⟨st, h1, h2⟩ := h; exact ⟨st, h1.below hb, h2⟩
theorem FlowSp.kept {w w' : World} {g : Nat} {lk : Int} {c : Cf} {sp : Sp} {us : List Value} {F X : Nat → Prop} {T : Option Int} (h : FlowSp w g lk c sp us F T) (hk : Kept X w w') (hX : ∀ k, F k → ¬ X k) : FlowSp w' g lk c sp us F T := by
  obtain ⟨st, h1, h2⟩ := h; exact ⟨st, h1.kept hk hX, h2⟩

theorem moved_sp (st : St) (E : List Ev) : spOf st.moved E = (spOf st E).line (cfOf st) ∧ cfOf st.moved = cfOf st := by
  unfold St.moved Sp.line
  by_cases h : (leastS st.src).2 = true
  · rw [if_pos h]
    have : (lineF (cfOf st).late (spOf st E).src (spOf st E).lt (spOf st E).li).2 = true := by
      unfold lineF
      rw [if_pos (show (leastS (spOf st E).src).2 = true from h)]
    exact ⟨by rw [this]; rfl, rfl⟩
  · rw [if_neg h]
    have : lineF (cfOf st).late (spOf st E).src (spOf st E).lt (spOf st E).li = (st.lt, st.li) := by
      unfold lineF
      rw [if_neg (show ¬ (leastS (spOf st E).src).2 = true from h)]; rfl
    exact ⟨by rw [this]; rfl, rfl⟩

theorem moveLine_sp (g : Nat) (lk : Int) (c : Cf) (sp : Sp) (us : List Value) (F : Nat → Prop) (T : Option Int) (w : World) (h : FlowSp w g lk c sp us F T) (hE : sp.E.length ≤ 100000000) :
    Calls Tryz.prog 77 #[.pointer (some ⟨g, 0, none⟩)] w fun e w' => e = .returned (.tuple #[]) ∧ FlowSp w' g lk c (sp.line c) us (Grown F w) T ∧ Kept F w w' ∧ Bytes8 w w' := by
  obtain ⟨st, h1, h2, h3, h4, h5⟩ := h
  have hsrc : st.src = sp.src := congrArg Sp.src h4
  refine (moveLine_flow g lk st us F sp.E T w h1 h2 (by rw [hsrc]; exact h3) hE).mono ?_
  rintro e w' ⟨rfl, h6, h7, h8⟩
  obtain ⟨e1, e2⟩ := moved_sp st sp.E
  refine ⟨rfl, ⟨st.moved, h6, h2.moved, h3, ?_, e2.trans h5⟩, h7, h8⟩
  show spOf st.moved sp.E = _
  rw [e1, h4, h5]

theorem raised_fits {l : List SrcS} (h : SrcFits l) (n : Nat) (t : Int) (h1 : -2305843009213693952 ≤ t) (h2 : t ≤ 2305843009213693952) : SrcFits (l.modify n (raisedS t)) := fun s hs => by
  obtain ⟨i, hi, rfl⟩ := List.mem_iff_getElem.1 hs
  rw [List.getElem_modify]
  have hi' : i < l.length := by simpa using hi
  have := h l[i] (by simp)
  split
  · unfold raisedS
    split
    · exact ⟨h1, h2⟩
    · exact this
  · exact this

/-- The unread cell of a source apart, a flow's cells are what they are. -/
theorem FlowIs.src {w : World} {g : Nat} {lk : Int} {st : St} {us : List Value} {F : Nat → Prop} (h : FlowIs w g lk st us F) (n : Nat) (s : SrcS) (hs : st.src[n]? = some s) : ∃ u, us[n]? = some u := by
  obtain ⟨r, gs, es, h1, rfl, rfl, rfl, h5⟩ := h
  have hs : (r.src.map srcS)[n]? = some s := hs
  rw [List.getElem?_map] at hs
  cases hr : r.src[n]? with
  | none => rw [hr] at hs; cases hs
  | some x => exact ⟨x.unread, by rw [List.getElem?_map, hr]; rfl⟩

theorem do_mark_sp (g n : Nat) (lk : Int) (c : Cf) (sp : Sp) (us : List Value) (F : Nat → Prop) (T : Option Int) (key : ByteArray) (t v tag : Int) (w : World) (h : FlowSp w g lk c sp us F T) (hn : n < sp.src.length) (hE : sp.E.length ≤ 100000000) :
    Calls Tryz.prog 72 #[.pointer (some ⟨g, 0, none⟩), .pointer (some ⟨g, 6 + n * 5, none⟩), itemV 2 key t v tag] w fun e w' => e = .returned (.tuple #[]) ∧ FlowSp w' g lk c ((sp.mark0 n t).line c) us (Grown F w) T ∧ Kept F w w' ∧ Bytes8 w w' := by
  obtain ⟨st, ⟨r, gs, es, h1, rfl, rfl, rfl, h5⟩, h2, h3, h4, rfl⟩ := h
  have hsrc : r.src.map srcS = sp.src := congrArg Sp.src h4
  obtain ⟨s, hs⟩ : ∃ s, r.src[n]? = some s := ⟨r.src[n]'(by rw [← hsrc, List.length_map] at hn; exact hn), List.getElem?_eq_getElem _⟩
  have hun : (r.src.set n (s.raised (clampT t))).map SSrc.unread = r.src.map SSrc.unread := by
    refine List.ext_getElem? (fun i => ?_)
    rw [List.getElem?_map, List.getElem?_set, List.getElem?_map]
    by_cases hi : n = i
    · subst hi
      have hl : n < r.src.length := (List.getElem?_eq_some_iff.1 hs).1
      have hsame : (s.raised (clampT t)).unread = s.unread := by unfold SSrc.raised; split <;> rfl
      rw [if_pos rfl, if_pos hl, hs]; simp [hsame]
    · simp [hi]
  refine do_mark_of g n r s key t v tag w h1.sf hs _ (fun W h6 k6 => ?_)
  have hk6 : Kept (flowFoot g r gs es) w W := k6.mono (fun k _ e => .inl e)
  have hmod : Mod (stOf (r.addMark.setSrc n (s.raised (clampT t))) gs es) sp.E T := h2.congr rfl rfl rfl rfl rfl rfl rfl rfl
  have hsp : spOf (stOf (r.addMark.setSrc n (s.raised (clampT t))) gs es) sp.E = sp.mark0 n t := by
    rw [← h4]
    unfold spOf Sp.mark0 Sp.raise stOf
    simp only [Sp.mk.injEq, true_and]
    exact ⟨src_set r.src n s _ _ hs (srcS_raised s _), rfl, rfl, rfl⟩
  refine (moveLine_sp g r.lk (cfOf (stOf r gs es)) (sp.mark0 n t) (r.src.map SSrc.unread) F T W ⟨_, ⟨_, gs, es, h1.turn k6 h6 rfl rfl, rfl, rfl, hun, fun k hk => h5 k ?_⟩, hmod, raised_fits h3 n _ (clampT_fits t).1 (clampT_fits t).2, hsp, rfl⟩ hE).mono ?_
  · rcases hk with hk | hk | hk | hk
    · exact .inl hk
    · exact .inr (.inl hk)
    · exact .inr (.inr (.inl hk))
    · exact .inr (.inr (.inr hk))
  · rintro e w' ⟨rfl, h7, h8, h9⟩
    refine ⟨rfl, h7.mono (fun k hk => ?_), (hk6.mono (fun k _ e => h5 k e)).trans h8, (h1.bytes8 hk6).trans h9⟩
    rcases hk with hk | hk
    · exact .inl hk
    · exact .inr (by have := k6.size; omega)

theorem event0_len (c : Cf) (sp : Sp) (n : Nat) (e : Ev) : (sp.event0 c n e).E.length ≤ sp.E.length + 1 := by
  unfold Sp.event0 Sp.raise
  (repeat' split) <;> simp
theorem event0_fits (c : Cf) (sp : Sp) (n : Nat) (e : Ev) (h : SrcFits sp.src) : SrcFits (sp.event0 c n e).src := by
  unfold Sp.event0 Sp.raise
  by_cases ho : outB e = true
  · rw [if_pos ho]; exact h
  · rw [if_neg ho]
    have ho' : ¬ evOut e := fun hh => ho ((outB_iff e).2 hh)
    unfold evOut at ho'
    have hr := raised_fits h n e.t (by omega) (by omega)
    split
    · exact hr
    · split
      · exact h
      · exact hr

theorem do_event_sp (g n : Nat) (lk : Int) (c : Cf) (sp : Sp) (us : List Value) (F : Nat → Prop) (T : Option Int) (e : Ev) (w : World) (h : FlowSp w g lk c sp us F T) (hn : n < sp.src.length) (he : e.fits) (hE : sp.E.length < 100000000) :
    Calls Tryz.prog 72 #[.pointer (some ⟨g, 0, none⟩), .pointer (some ⟨g, 6 + n * 5, none⟩), evItem e] w fun en w' => en = .returned (.tuple #[]) ∧ FlowSp w' g lk c ((sp.event0 c n e).line c) us (Grown F w) T ∧ Kept F w w' ∧ Bytes8 w w' := by
  have hlen := event0_len c sp n e
  refine do_event_of g _ e.key e.t e.v e.tag w (fun W => FlowSp W g lk c (sp.event0 c n e) us (Grown F w) T ∧ Kept F w W ∧ Bytes8 w W) _ (fun W hb => ?_) (fun W hP => ?_)
  · obtain ⟨st, ⟨r, gs, es, h1, rfl, rfl, rfl, h5⟩, h2, h3, h4, rfl⟩ := h.below hb
    have hsrc : r.src.map srcS = sp.src := congrArg Sp.src h4
    obtain ⟨s, hs⟩ : ∃ s, r.src[n]? = some s := ⟨r.src[n]'(by rw [← hsrc, List.length_map] at hn; exact hn), List.getElem?_eq_getElem _⟩
    have hok : EvOk r gs e := by
      have c1 := h2.conf.s1
      have c2 := h2.conf.s2
      have c3 := h2.conf.s3
      have c4 := h2.conf.k2
      have c5 := h2.gsLen
      have c6 : (stOf r gs es).gs.length = gs.length := by simp [stOf, rsOf]
      rw [c6] at c5
      refine ⟨by omega, he.2.2, c1, c2, c3, fun _ hl x hx _ => ?_⟩
      exact h2.keepOk (by omega) (r := x.r) (List.mem_append_right _ (List.mem_map_of_mem hx)) e hl
    refine (doEvent_any g n r s gs es e W h1 hs hok).mono ?_
    rintro en w' ⟨rfl, r', gs', hrel, h6, h7, h8⟩
    obtain ⟨E', m1, m2, m3, m4, m5, m6⟩ := evRel_sp hrel hs h2 he
    have hE' : E' = ((spOf (stOf r gs es) sp.E).event0 (cfOf (stOf r gs es)) n e).E := congrArg Sp.E m2
    rw [h4] at m2 hE'
    subst hE'
    have k8 : Kept F W w' := h8.mono (fun k _ e => h5 k e)
    refine ⟨rfl, ⟨_, ⟨r', gs', es, h6, rfl, m4, m5, fun k hk => ?_⟩, m1, event0_fits _ _ _ _ h3, m2, m3⟩, (Kept.ofBelow hb F).trans k8, (Bytes8.ofBelow hb).trans (h1.bytes8 h8)⟩
    rcases h7 k hk with hk | hk
    · exact .inl (h5 k hk)
    · exact .inr (by have := hb.size; omega)
  · obtain ⟨h1, h2, h3⟩ := hP
    refine (moveLine_sp g lk c _ us (Grown F w) T W h1 (by omega)).mono ?_
    rintro en w' ⟨rfl, h4, h5, h6⟩
    refine ⟨rfl, h4.mono (fun k hk => ?_), h2.step h5 (fun k hk he => ?_), h3.trans h6⟩
    · rcases hk with hk | hk
      · exact hk
      · exact .inr (by have := h2.size; omega)
    · rcases he with he | he
      · exact he
      · omega

/-- A source broken off. -/
def Sp.break0 (s : Sp) (n : Nat) : Sp := { s with src := s.src.modify n (fun _ => ⟨true, true, 0, false⟩), n := { s.n with broken := wrap64 (s.n.broken + 1) } }
end Go.Proofs.YtcfngdnmpogaoaaGreat

/-
  A source broken off; read.
-/
namespace Go.Proofs.YtcfngdnmpogaoaaGreat
open Go.RowKit Go.MuLone

set_option maxRecDepth 20000 in
set_option maxHeartbeats 1600000 in
theorem breakOff_of (g n : Nat) (r : SCells) (s : SSrc) (w : World) (h : SF w g r) (hs : r.src[n]? = some s) (Q : World → Prop)
    (hm : ∀ W, SF W g (r.setSrc n ⟨true, true, .slice none 0 0, 0, false⟩).addBroken → Kept (fun k => k = g) w W → Calls Tryz.prog 77 #[.pointer (some ⟨g, 0, none⟩)] W fun e w' => e = .returned (.tuple #[]) ∧ Q w') :
    Calls Tryz.prog 71 #[.pointer (some ⟨g, 0, none⟩), .pointer (some ⟨g, 6 + n * 5, none⟩)] w fun e w' => e = .returned (.tuple #[]) ∧ Q w' := by
  have HR : Hid (∀ W, SF W g (r.setSrc n ⟨true, true, .slice none 0 0, 0, false⟩).addBroken → Kept (fun k => k = g) w W → Calls Tryz.prog 77 #[.pointer (some ⟨g, 0, none⟩)] W fun e w' => e = .returned (.tuple #[]) ∧ Q w') := hm
  clear hm
  have c0 : w.cell? ⟨g, 6 + n * 5, none⟩ = some (.bool s.opened) := h.cell (r.srcAt n 0 s hs (by omega))
  have c1 : w.cell? ⟨g, 6 + n * 5 + 1, none⟩ = some (.bool s.broken) := h.cell (r.srcAt n 1 s hs (by omega))
  have c2 : w.cell? ⟨g, 6 + n * 5 + 2, none⟩ = some s.unread := h.cell (r.srcAt n 2 s hs (by omega))
  have c3 : w.cell? ⟨g, 6 + n * 5 + 3, none⟩ = some (.int .i64 s.time) := h.cell (r.srcAt n 3 s hs (by omega))
  have c4 : w.cell? ⟨g, 6 + n * 5 + 4, none⟩ = some (.bool s.is) := h.cell (r.srcAt n 4 s hs (by omega))
  have fz : ∀ j, w.frozen? ⟨g, j, none⟩ = false := h.frozen
  have H1 : Hid (SF (((((w.setCell ⟨g, 6 + n * 5, none⟩ (.bool true)).setCell ⟨g, 6 + n * 5 + 1, none⟩ (.bool true)).setCell ⟨g, 6 + n * 5 + 2, none⟩ (.slice none 0 0)).setCell ⟨g, 6 + n * 5 + 3, none⟩ (.int .i64 0)).setCell ⟨g, 6 + n * 5 + 4, none⟩ (.bool false)) g (r.setSrc n ⟨true, true, .slice none 0 0, 0, false⟩)) := h.putAll n s true true (.slice none 0 0) 0 false hs
  have K1 : Hid (Kept (fun k => k = g) w (((((w.setCell ⟨g, 6 + n * 5, none⟩ (.bool true)).setCell ⟨g, 6 + n * 5 + 1, none⟩ (.bool true)).setCell ⟨g, 6 + n * 5 + 2, none⟩ (.slice none 0 0)).setCell ⟨g, 6 + n * 5 + 3, none⟩ (.int .i64 0)).setCell ⟨g, 6 + n * 5 + 4, none⟩ (.bool false))) := by
    refine Kept.setCell ?_ ⟨g, _, none⟩ _ (fun _ => rfl)
    refine Kept.setCell ?_ ⟨g, _, none⟩ _ (fun _ => rfl)
    refine Kept.setCell ?_ ⟨g, _, none⟩ _ (fun _ => rfl)
    refine Kept.setCell ?_ ⟨g, _, none⟩ _ (fun _ => rfl)
    refine Kept.setCell ?_ ⟨g, _, none⟩ _ (fun _ => rfl)
    exact Kept.refl _ w
  clear h
  go_enter Tryz.func71, Tryz.ntmps71
  go_wp2_with fail
  generalize ((((w.setCell ⟨g, 6 + n * 5, none⟩ (.bool true)).setCell ⟨g, 6 + n * 5 + 1, none⟩ (.bool true)).setCell ⟨g, 6 + n * 5 + 2, none⟩ (.slice none 0 0)).setCell ⟨g, 6 + n * 5 + 3, none⟩ (.int .i64 0)).setCell ⟨g, 6 + n * 5 + 4, none⟩ (.bool false) = W1 at *
  refine (add_any g 55 r.n.broken 1 W1 (H1.out.tailAt 9 rfl) (H1.out.frozen _)).mono ?_
  rintro e W2 ⟨rfl, rfl⟩
  have H2 : Hid (SF (W1.setCell ⟨g, 55, none⟩ (.int .i64 (wrap64 (r.n.broken + 1)))) g (r.setSrc n ⟨true, true, .slice none 0 0, 0, false⟩).addBroken) := H1.out.putTail 9 _ rfl rfl rfl
  have K2 : Hid (Kept (fun k => k = g) w (W1.setCell ⟨g, 55, none⟩ (.int .i64 (wrap64 (r.n.broken + 1))))) := K1.out.setCell ⟨g, 55, none⟩ _ (fun _ => rfl)
  generalize W1.setCell ⟨g, 55, none⟩ (.int .i64 (wrap64 (r.n.broken + 1))) = W2 at *
  clear c0 c1 c2 c3 c4 fz
  go_wp2_with fail
  refine (HR.out W2 H2.out K2.out).mono ?_
  rintro e W6 ⟨rfl, h6⟩
  have H6 : Hid (Q W6) := h6
  clear h6
  go_wp2
  go_end0
  exact ⟨rfl, H6.out⟩

theorem set_map {α β : Type} (f : α → β) (l : List α) (n : Nat) (x : α) : (l.set n x).map f = (l.map f).set n (f x) := by
  rw [List.map_set]

theorem modify_const (l : List SrcS) (n : Nat) (x : SrcS) : l.modify n (fun _ => x) = l.set n x := by
  refine List.ext_getElem? (fun i => ?_)
  rw [List.getElem?_modify, List.getElem?_set]
  by_cases hi : n = i
  · subst hi
    by_cases hl : n < l.length
    · simp [hl]
    · simp [hl]
  · simp [hi]

theorem set_fits {l : List SrcS} (h : SrcFits l) (n : Nat) (x : SrcS) (h1 : -2305843009213693952 ≤ x.time) (h2 : x.time ≤ 2305843009213693952) : SrcFits (l.set n x) := fun s hs => by
  rcases List.mem_or_eq_of_mem_set hs with hs | rfl
  · exact h s hs
  · exact ⟨h1, h2⟩

theorem breakOff_sp (g n : Nat) (lk : Int) (c : Cf) (sp : Sp) (us : List Value) (F : Nat → Prop) (T : Option Int) (w : World) (h : FlowSp w g lk c sp us F T) (hn : n < sp.src.length) (hE : sp.E.length ≤ 100000000) :
    Calls Tryz.prog 71 #[.pointer (some ⟨g, 0, none⟩), .pointer (some ⟨g, 6 + n * 5, none⟩)] w fun e w' => e = .returned (.tuple #[]) ∧ FlowSp w' g lk c ((sp.break0 n).line c) (us.set n (.slice none 0 0)) (Grown F w) T ∧ Kept F w w' ∧ Bytes8 w w' := by
  obtain ⟨st, ⟨r, gs, es, h1, rfl, rfl, rfl, h5⟩, h2, h3, h4, rfl⟩ := h
  have hsrc : r.src.map srcS = sp.src := congrArg Sp.src h4
  obtain ⟨s, hs⟩ : ∃ s, r.src[n]? = some s := ⟨r.src[n]'(by rw [← hsrc, List.length_map] at hn; exact hn), List.getElem?_eq_getElem _⟩
  refine breakOff_of g n r s w h1.sf hs _ (fun W h6 k6 => ?_)
  have hk6 : Kept (flowFoot g r gs es) w W := k6.mono (fun k _ e => .inl e)
  have hmod : Mod (stOf (r.setSrc n ⟨true, true, .slice none 0 0, 0, false⟩).addBroken gs es) sp.E T := h2.congr rfl rfl rfl rfl rfl rfl rfl rfl
  have hsp : spOf (stOf (r.setSrc n ⟨true, true, .slice none 0 0, 0, false⟩).addBroken gs es) sp.E = sp.break0 n := by
    rw [← h4]
    unfold spOf Sp.break0 stOf
    simp only [Sp.mk.injEq, true_and]
    exact ⟨src_set r.src n s _ _ hs rfl, rfl, rfl, rfl⟩
  refine (moveLine_sp g r.lk (cfOf (stOf r gs es)) (sp.break0 n) ((r.src.map SSrc.unread).set n (.slice none 0 0)) F T W ⟨_, ⟨_, gs, es, h1.turn k6 h6 rfl rfl, rfl, rfl, set_map _ _ _ _, fun k hk => h5 k ?_⟩, hmod, ?_, hsp, rfl⟩ hE).mono ?_
  · rcases hk with hk | hk | hk | hk
    · exact .inl hk
    · exact .inr (.inl hk)
    · exact .inr (.inr (.inl hk))
    · exact .inr (.inr (.inr hk))
  · show SrcFits (sp.src.modify n _)
    rw [modify_const]
    exact set_fits h3 n _ (by decide) (by decide)
  · rintro e w' ⟨rfl, h7, h8, h9⟩
    refine ⟨rfl, h7.mono (fun k hk => ?_), (hk6.mono (fun k _ e => h5 k e)).trans h8, (h1.bytes8 hk6).trans h9⟩
    rcases hk with hk | hk
    · exact .inl hk
    · exact .inr (by have := k6.size; omega)
end Go.Proofs.YtcfngdnmpogaoaaGreat

/-
  read: the items of what has come; what a flow makes of bytes.
-/
namespace Go.Proofs.YtcfngdnmpogaoaaGreat
open Go.RowKit Go.MuLone

set_option maxRecDepth 20000 in
set_option maxHeartbeats 3200000 in
/-- read, over what do and breakOff make; what it keeps lies in new room. -/
theorem read_new (g o B : Nat) (v0 bv : Value) (l0 l : List UInt8) (w : World) (Q : World → Prop) (J : World → List UInt8 → Prop)
    (c1 : w.cell? ⟨g, o + 1, none⟩ = some (.bool false)) (c2 : w.cell? ⟨g, o + 2, none⟩ = some v0) (hr0 : Row w 5 1 v0 (l0.map byteV)) (hrb : Row w 5 1 bv (l.map byteV)) (hlen : l0.length + l.length ≤ 140737488355328)
    (hJ0 : J w (l0 ++ l)) (hJb : ∀ W W' L, J W L → Below W.heap.size W W' → J W' L)
    (hJd : ∀ W L, J W L → unfShort L = false → unfOk L = true → L.length ≤ l0.length + l.length → Calls Tryz.prog 72 #[.pointer (some ⟨g, 0, none⟩), .pointer (some ⟨g, o, none⟩), unfV L] W fun e W' => e = .returned (.tuple #[]) ∧ J W' (L.drop ((L.getD 0 0).toNat + 3)) ∧ Bytes8 W W')
    (hJx : ∀ W L, J W L → unfShort L = false → unfOk L = false → Calls Tryz.prog 71 #[.pointer (some ⟨g, 0, none⟩), .pointer (some ⟨g, o, none⟩)] W fun e W' => e = .returned (.tuple #[]) ∧ Q W')
    (hJs : ∀ W L, J W L → B ≤ W.heap.size)
    (hJe : ∀ W L v, J W L → unfShort L = true → Row W 5 1 v (L.map byteV) → (∀ k, v.ownBlock = some k → B ≤ k) → (∃ u, W.cell? ⟨g, o + 2, none⟩ = some u) ∧ W.frozen? ⟨g, o + 2, none⟩ = false ∧ Q (W.setCell ⟨g, o + 2, none⟩ v)) :
    Calls Tryz.prog 45 #[.pointer (some ⟨g, 0, none⟩), .pointer (some ⟨g, o, none⟩), bv] w fun e w' => e = .returned (.tuple #[]) ∧ Q w' := by
  obtain ⟨i5, hi, hz0, hz1, hz2⟩ := info_parts info5
  have HJ0 : Hid (J w (l0 ++ l)) := hJ0
  have HJb : Hid (∀ W W' L, J W L → Below W.heap.size W W' → J W' L) := hJb
  have HJd : Hid (∀ W L, J W L → unfShort L = false → unfOk L = true → L.length ≤ l0.length + l.length → Calls Tryz.prog 72 #[.pointer (some ⟨g, 0, none⟩), .pointer (some ⟨g, o, none⟩), unfV L] W fun e W' => e = .returned (.tuple #[]) ∧ J W' (L.drop ((L.getD 0 0).toNat + 3)) ∧ Bytes8 W W') := hJd
  have HJx : Hid (∀ W L, J W L → unfShort L = false → unfOk L = false → Calls Tryz.prog 71 #[.pointer (some ⟨g, 0, none⟩), .pointer (some ⟨g, o, none⟩)] W fun e W' => e = .returned (.tuple #[]) ∧ Q W') := hJx
  have HJs : Hid (∀ W L, J W L → B ≤ W.heap.size) := hJs
  have HJe : Hid (∀ W L v, J W L → unfShort L = true → Row W 5 1 v (L.map byteV) → (∀ k, v.ownBlock = some k → B ≤ k) → (∃ u, W.cell? ⟨g, o + 2, none⟩ = some u) ∧ W.frozen? ⟨g, o + 2, none⟩ = false ∧ Q (W.setCell ⟨g, o + 2, none⟩ v)) := hJe
  have HR0 : Hid (Row w 5 1 v0 (l0.map byteV)) := hr0
  have HRb : Hid (Row w 5 1 bv (l.map byteV)) := hrb
  obtain ⟨a0, k0, hv0, hk0⟩ := hr0.slice
  obtain ⟨ab, kb, hvb, hkb⟩ := hrb.slice
  rw [List.length_map] at hv0 hvb hk0 hkb
  subst hv0 hvb
  clear hJ0 hJb hJd hJx hJs hJe hr0 hrb
  go_enter Tryz.func45, Tryz.ntmps45
  go_wp2_with fail
  refine (concat_two w.heap.size (.slice a0 l0.length k0) (.slice ab l.length kb) l0 l _ (by simp) (by simp) (by simp) (HR0.out.alloc _) (HRb.out.alloc _) hlen).mono ?_
  rintro e W0 ⟨vL, rfl, hrL, hgL, hbL⟩
  have HRL : Hid (Row W0 5 1 vL ((l0 ++ l).map byteV)) := hrL
  have HJL : Hid (J W0 (l0 ++ l)) := HJb.out w W0 _ HJ0.out (((Below.refl _ w).alloc (Nat.le_refl _) _).trans (hbL.mono (by simp)))
  clear hrL hgL hbL c1 c2
  go_wp2
  go_loopw [6] (fun lv wr => ∃ L : List UInt8, Row wr 5 1 lv (L.map byteV) ∧ J wr L ∧ L.length ≤ l0.length + l.length) (fun lv _ => lenV lv)
  case atStart => exact ⟨l0 ++ l, HRL.out, HJL.out, by simp⟩
  case round =>
    obtain ⟨L, hrow, hJ, hLl⟩ := hrel
    have HRow : Hid (Row wr 5 1 u6 (L.map byteV)) := hrow
    have HJ : Hid (J wr L) := hJ
    have HU := unframe_row u6 L wr hrow (by omega)
    clear hrow hJ
    cases hsh : unfShort L with
    | true =>
      obtain ⟨e1, e2, e3⟩ := unf_short L hsh
      rw [e1, e2, e3] at HU
      unfold itemNone at HU
      clear e1 e2 e3
      go_wp2_with fail
      refine HU.mono ?_
      rintro e W1 ⟨rfl, hb⟩
      have HJ1 : Hid (J (W1.alloc (.cells #[.int .i64 0, .string ⟨#[]⟩, .int .i64 0, .int .i64 0, .int .u32 0] 28)) L) := HJb.out _ _ _ HJ.out (hb.trans ((Below.refl _ W1).alloc (Nat.le_refl _) _ |>.mono hb.size))
      have HR1 : Hid (Row (W1.alloc (.cells #[.int .i64 0, .string ⟨#[]⟩, .int .i64 0, .int .i64 0, .int .u32 0] 28)) 5 1 u6 (L.map byteV)) := (HRow.out.bytes8 (Bytes8.ofBelow hb)).alloc _
      clear hb HU
      have S1 : Src Tryz.prog 1 30 u6 L.length (L.map byteV) (W1.alloc (.cells #[.int .i64 0, .string ⟨#[]⟩, .int .i64 0, .int .i64 0, .int .u32 0] 28)) := by
        have := Row.src (P := Tryz.prog) _ HR1.out (oneCell_bytes L) Tryz.underlying30
        rw [List.length_map] at this; exact this
      go_wp2_with (at_builtin; go_must (refine wpList_append_any _ rfl _ _ _ _ rfl 5 i5 (.int .u8 0) 1 1 Tryz.underlying30 hi hz0 hz1 hz2 rfl Nat.one_pos (.slice none 0 0) [] rfl (Row.nil _ _ _) u6 L.length (L.map byteV) rfl S1 ?h63 ?hby ?next))
      case h63 => simp only [maxLen, List.length_nil]; omega
      case hby => simp only [List.length_nil]; omega
      intro v3 W3 ha hnil
      have hb3 := ha.below (B := (W1.alloc (.cells #[.int .i64 0, .string ⟨#[]⟩, .int .i64 0, .int .i64 0, .int .u32 0] 28)).heap.size) (by intro g hg; simp [Value.ownBlock] at hg) (Nat.le_refl _)
      have hr3 := ha.row
      rw [List.nil_append] at hr3
      obtain ⟨⟨u, hu⟩, hfz, hQ⟩ := HJe.out W3 L v3 (HJb.out _ _ _ HJ1.out hb3) hsh hr3 (ha.blk (by intro g hg; simp [Value.ownBlock] at hg) (HJs.out _ _ HJ1.out))
      obtain ⟨a3, k3, hv3, -⟩ := hr3.slice
      subst hv3
      have HQ : Hid (Q (W3.setCell ⟨g, o + 2, none⟩ (.slice a3 (L.map byteV).length k3))) := hQ
      clear ha hb3 hr3 hQ S1 hnil
      go_wp2
      go_end0
      have hQ := HQ.out
      rw [List.length_map] at hQ
      exact ⟨rfl, hQ⟩
    | false =>
      cases hok : unfOk L with
      | false =>
        obtain ⟨e1, e2, e3⟩ := unf_bad L hsh hok
        rw [e1, e2, e3] at HU
        unfold itemNone at HU
        clear e1 e2 e3
        go_wp2_with fail
        refine HU.mono ?_
        rintro e W1 ⟨rfl, hb⟩
        have HJ1 : Hid (J (W1.alloc (.cells #[.int .i64 0, .string ⟨#[]⟩, .int .i64 0, .int .i64 0, .int .u32 0] 28)) L) := HJb.out _ _ _ HJ.out (hb.trans ((Below.refl _ W1).alloc (Nat.le_refl _) _ |>.mono hb.size))
        clear hb HU
        go_wp2_with fail
        refine (HJx.out _ _ HJ1.out hsh hok).mono ?_
        rintro e W3 ⟨rfl, hQ⟩
        go_wp2
        refine bodyPost_ret (results_none rfl _ _ _) rfl ?_
        exact ⟨rfl, hQ⟩
      | true =>
        obtain ⟨hn, hnl⟩ := unfN_pos L hsh hok
        have hE : unfE L = 0 := by rw [unfE, hsh, hok]; rfl
        obtain ⟨ik, key, it, iv, itg, hV⟩ := unfV_cells L
        rw [hn, hE, hV] at HU
        have HD := HJd.out
        have HV : Hid (unfV L = .agg #[.int .i64 ik, .string key, .int .i64 it, .int .i64 iv, .int .u32 itg]) := hV
        obtain ⟨gL, oL, nL, cL, hu6, hnL, hcL⟩ := HRow.out.shape (by intro hh; have := congrArg List.length hh; simp at this; subst this; simp at hnl)
        rw [List.length_map, Nat.mul_one] at hnL
        subst hnL
        subst hu6
        generalize hN : (L.getD 0 0).toNat + 3 = N at *
        have hN3 : 3 ≤ N := by omega
        have HN : Hid ((L.getD 0 0).toNat + 3 = N) := hN
        clear hN hn hE hV
        go_wp2_with fail
        refine HU.mono ?_
        rintro e W1 ⟨rfl, hb⟩
        have HJ1 : Hid (J (W1.alloc (.cells #[.int .i64 ik, .string key, .int .i64 it, .int .i64 iv, .int .u32 itg] 28)) L) := HJb.out _ _ _ HJ.out (hb.trans ((Below.refl _ W1).alloc (Nat.le_refl _) _ |>.mono hb.size))
        have HR1 : Hid (Row (W1.alloc (.cells #[.int .i64 ik, .string key, .int .i64 it, .int .i64 iv, .int .u32 itg] 28)) 5 1 (.slice (some ⟨gL, oL, none⟩) L.length cL) (L.map byteV)) := (HRow.out.bytes8 (Bytes8.ofBelow hb)).alloc _
        have HD1 := HD _ L HJ1.out hsh hok hLl
        rw [HV.out, HN.out] at HD1
        clear hb HU HD
        go_wp2_with fail
        refine HD1.mono ?_
        rintro e W3 ⟨rfl, hJ3, hB3⟩
        have HJ3 : Hid (J W3 (L.drop N)) := hJ3
        have HR3 : Hid (Row W3 5 1 (.slice (some ⟨gL, oL, none⟩) L.length cL) (L.map byteV)) := HR1.out.bytes8 hB3
        clear hJ3 hB3 HD1
        by_cases hNc : N < cL
        · have hNc' : ¬ cL = N := by omega
          go_wp2
          go_roundw
          case rel =>
            refine ⟨L.drop N, ?_, HJ3.out, by rw [List.length_drop]; omega⟩
            rw [List.map_drop]
            exact HR3.out.rest N hnl hNc
          case measure => simp [lenV]; omega
        · have hNc' : cL = N := by omega
          subst hNc'
          go_wp2
          go_roundw
          case rel =>
            refine ⟨L.drop cL, ?_, HJ3.out, by rw [List.length_drop]; omega⟩
            rw [List.drop_of_length_le (by omega)]
            exact HR3.out.empty
          case measure => simp [lenV]; omega

theorem read_broken (g o : Nat) (bv : Value) (w : World) (c1 : w.cell? ⟨g, o + 1, none⟩ = some (.bool true)) :
    Calls Tryz.prog 45 #[.pointer (some ⟨g, 0, none⟩), .pointer (some ⟨g, o, none⟩), bv] w fun e w' => e = .returned (.tuple #[]) ∧ w' = w := by
  go_enter Tryz.func45, Tryz.ntmps45
  go_wp2
  refine bodyPost_ret (results_none rfl _ _ _) rfl ?_
  exact ⟨rfl, rfl⟩
end Go.Proofs.YtcfngdnmpogaoaaGreat

/-
  Feed, of any bytes.
-/
namespace Go.Proofs.YtcfngdnmpogaoaaGreat
open Go.RowKit Go.MuLone

/-- The event of a body. -/
def evOf (body : List UInt8) : Ev := ⟨str ((body.drop 2).take (body.getD 1 0).toNat), toI (numb ((body.drop (2 + (body.getD 1 0).toNat)).take 8)), toI (numb ((body.drop (10 + (body.getD 1 0).toNat)).take 8)), numb (body.drop (18 + (body.getD 1 0).toNat))⟩
def itemF (c : Cf) (sp : Sp) (n : Nat) (L : List UInt8) : Sp :=
  if (unfBody L).getD 0 0 = 1 then (sp.event0 c n (evOf (unfBody L))).line c else (sp.mark0 n (toI (numb ((unfBody L).drop 1)))).line c
/-- What bytes make of a flow, and what is left of them. -/
def feedF (c : Cf) (n : Nat) : Nat → Sp → List UInt8 → Sp × List UInt8
  | 0, sp, L => (sp, L)
  | f + 1, sp, L => if unfShort L then (sp, L) else if unfOk L then feedF c n f (itemF c sp n L) (L.drop ((L.getD 0 0).toNat + 3)) else ((sp.break0 n).line c, [])

theorem line_E (c : Cf) (s : Sp) : (s.line c).E = s.E := rfl
theorem line_src (c : Cf) (s : Sp) : (s.line c).src = s.src := rfl
theorem mark0_E (s : Sp) (n : Nat) (t : Int) : (s.mark0 n t).E = s.E := rfl
theorem mark0_src (s : Sp) (n : Nat) (t : Int) : (s.mark0 n t).src = s.src.modify n (raisedS (clampT t)) := rfl
theorem itemF_len (c : Cf) (sp : Sp) (n : Nat) (L : List UInt8) : (itemF c sp n L).E.length ≤ sp.E.length + 1 := by
  unfold itemF
  split
  · rw [line_E]; exact event0_len c sp n _
  · rw [line_E, mark0_E]; exact Nat.le_succ _
theorem event0_src (c : Cf) (sp : Sp) (n : Nat) (e : Ev) : (sp.event0 c n e).src.length = sp.src.length := by
  unfold Sp.event0 Sp.raise
  (repeat' split) <;> simp
theorem itemF_src (c : Cf) (sp : Sp) (n : Nat) (L : List UInt8) : (itemF c sp n L).src.length = sp.src.length := by
  unfold itemF
  split
  · rw [line_src]; exact event0_src c sp n _
  · rw [line_src, mark0_src, List.length_modify]
theorem toI_range (x : Nat) : -9223372036854775808 ≤ toI x ∧ toI x ≤ 9223372036854775807 := by
  unfold toI wrap64; omega
theorem evOf_fits (body : List UInt8) (h : isEvent body = true) : (evOf body).fits := by
  have hr := toI_range (numb ((body.drop (10 + (body.getD 1 0).toNat)).take 8))
  refine ⟨hr.1, hr.2, ?_⟩
  unfold isEvent at h
  simp only [Bool.and_eq_true, decide_eq_true_eq] at h
  have hl := numb_lt (body.drop (18 + (body.getD 1 0).toNat))
  rw [List.length_drop, h.2.2.2, show 22 + (body.getD 1 0).toNat - (18 + (body.getD 1 0).toNat) = 4 from by omega] at hl
  exact hl

theorem do_sp (g n : Nat) (lk : Int) (c : Cf) (sp : Sp) (us : List Value) (F : Nat → Prop) (T : Option Int) (L : List UInt8) (w : World) (h : FlowSp w g lk c sp us F T) (hn : n < sp.src.length) (hs : unfShort L = false) (ho : unfOk L = true) (hE : sp.E.length < 100000000) :
    Calls Tryz.prog 72 #[.pointer (some ⟨g, 0, none⟩), .pointer (some ⟨g, 6 + n * 5, none⟩), unfV L] w fun en w' => en = .returned (.tuple #[]) ∧ FlowSp w' g lk c (itemF c sp n L) us (Grown F w) T ∧ Kept F w w' ∧ Bytes8 w w' := by
  have hb : itemOfB (unfBody L) = true := by unfold unfOk at ho; simp at ho; exact ho.2
  rw [show unfV L = itemOfV (unfBody L) from by rw [unfV, hs, ho]; rfl]
  unfold itemOfV itemF
  rw [if_pos hb]
  by_cases h1 : (unfBody L).getD 0 0 = 1
  · rw [if_pos h1, if_pos h1]
    have he : isEvent (unfBody L) = true := by rw [itemOfB, if_pos h1] at hb; exact hb
    exact do_event_sp g n lk c sp us F T (evOf (unfBody L)) w h hn (evOf_fits _ he) hE
  · rw [if_neg h1, if_neg h1]
    exact do_mark_sp g n lk c sp us F T ⟨#[]⟩ (toI (numb ((unfBody L).drop 1))) 0 0 w h hn (by omega)

/-- What the sources have not read. -/
structure Rests (w : World) (us : List Value) (rs : List (List UInt8)) (F : Nat → Prop) : Prop where
  ul : us.length = 8
  rl : rs.length = 8
  row : ∀ (i : Nat) (v : Value) (l : List UInt8), us[i]? = some v → rs[i]? = some l → Row w 5 1 v (l.map byteV) ∧ (∀ k, v.ownBlock = some k → F k) ∧ l.length ≤ 300

theorem FlowSp.lock {w : World} {g : Nat} {lk : Int} {c : Cf} {sp : Sp} {us : List Value} {F : Nat → Prop} {T : Option Int} (h : FlowSp w g lk c sp us F T) (k : Int) : FlowSp (w.setCell ⟨g, 0, none⟩ (.int .i32 k)) g k c sp us F T ∧ F g := by
  obtain ⟨st, ⟨r, gs, es, h1, rfl, rfl, rfl, h5⟩, h2⟩ := h
  refine ⟨⟨_, ⟨r.lock k, gs, es, h1.turn ((Kept.refl _ w).setCell ⟨g, 0, none⟩ _ (fun _ => rfl)) (h1.sf.putLock k) rfl rfl, rfl, rfl, rfl, fun j hj => h5 j ?_⟩, h2⟩, h5 g (.inl rfl)⟩
  rcases hj with hj | hj | hj | hj
  · exact .inl hj
  · exact .inr (.inl hj)
  · exact .inr (.inr (.inl hj))
  · exact .inr (.inr (.inr hj))
theorem FlowSp.lockAt {w : World} {g : Nat} {lk : Int} {c : Cf} {sp : Sp} {us : List Value} {F : Nat → Prop} {T : Option Int} (h : FlowSp w g lk c sp us F T) : w.cell? ⟨g, 0, none⟩ = some (.int .i32 lk) ∧ w.frozen? ⟨g, 0, none⟩ = false := by
  obtain ⟨st, ⟨r, gs, es, h1, rfl, rfl, rfl, h5⟩, h2⟩ := h
  exact ⟨h1.sf.lockAt rfl, h1.sf.frozen 0⟩
theorem FlowSp.srcLen {w : World} {g : Nat} {lk : Int} {c : Cf} {sp : Sp} {us : List Value} {F : Nat → Prop} {T : Option Int} (h : FlowSp w g lk c sp us F T) : sp.src.length = 8 ∧ us.length = 8 := by
  obtain ⟨st, ⟨r, gs, es, h1, rfl, rfl, rfl, h5⟩, h2, h3, h4, h6⟩ := h
  have e : sp.src = r.src.map srcS := (congrArg Sp.src h4).symm
  rw [e, List.length_map, List.length_map]
  exact ⟨h1.sf.len, h1.sf.len⟩

/-- The unread cell written. -/
theorem FlowSp.unread {w : World} {g : Nat} {lk : Int} {c : Cf} {sp : Sp} {us : List Value} {F : Nat → Prop} {T : Option Int} (h : FlowSp w g lk c sp us F T) (n : Nat) (hn : n < 8) (v : Value) :
    (∃ u, w.cell? ⟨g, 6 + n * 5 + 2, none⟩ = some u) ∧ w.frozen? ⟨g, 6 + n * 5 + 2, none⟩ = false ∧ FlowSp (w.setCell ⟨g, 6 + n * 5 + 2, none⟩ v) g lk c sp (us.set n v) F T := by
  obtain ⟨st, ⟨r, gs, es, h1, rfl, rfl, rfl, h5⟩, h2, h3, h4, h6⟩ := h
  obtain ⟨s, hs⟩ : ∃ s, r.src[n]? = some s := ⟨r.src[n]'(by rw [h1.sf.len]; exact hn), List.getElem?_eq_getElem _⟩
  have hset : (r.src.set n ⟨s.opened, s.broken, v, s.time, s.is⟩).map srcS = r.src.map srcS := by
    refine List.ext_getElem? (fun i => ?_)
    rw [List.getElem?_map, List.getElem?_set, List.getElem?_map]
    by_cases hi : n = i
    · subst hi
      have hl : n < r.src.length := (List.getElem?_eq_some_iff.1 hs).1
      rw [if_pos rfl, if_pos hl, hs]; rfl
    · simp [hi]
  have hst : stOf (r.setSrc n ⟨s.opened, s.broken, v, s.time, s.is⟩) gs es = stOf r gs es := by
    unfold stOf SCells.setSrc
    simp only [hset]
  refine ⟨⟨_, h1.sf.cell (r.srcAt n 2 s hs (by omega))⟩, h1.sf.frozen _, stOf r gs es, ⟨r.setSrc n ⟨s.opened, s.broken, v, s.time, s.is⟩, gs, es, h1.turn ((Kept.refl _ w).setCell ⟨g, _, none⟩ _ (fun _ => rfl)) (h1.sf.putSrc n 2 s _ v hs (by omega) rfl) rfl rfl, hst, rfl, set_map _ _ _ _, fun j hj => h5 j ?_⟩, h2, h3, h4, h6⟩
  rcases hj with hj | hj | hj | hj
  · exact .inl hj
  · exact .inr (.inl hj)
  · exact .inr (.inr (.inl hj))
  · exact .inr (.inr (.inr hj))

theorem short_len (L : List UInt8) (h : unfShort L = true) : L.length ≤ 300 := by
  unfold unfShort at h
  simp only [decide_eq_true_eq] at h
  have := (L.getD 0 0).toNat_lt
  omega
theorem Grown.of {F : Nat → Prop} {w W : World} (hs : w.heap.size ≤ W.heap.size) {k : Nat} (h : Grown (Grown F w) W k) : Grown F w k := by
  rcases h with h | h
  · exact h
  · exact .inr (by omega)
theorem Kept.grown {F : Nat → Prop} {w W W' : World} (h : Kept F w W) (k : Kept (Grown F w) W W') : Kept F w W' := h.step k (fun i hi hh => hh.elim id (fun e => by omega))
end Go.Proofs.YtcfngdnmpogaoaaGreat
