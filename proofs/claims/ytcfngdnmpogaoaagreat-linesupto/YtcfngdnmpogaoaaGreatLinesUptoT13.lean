import Derived.Test.YtcfngdnmpogaoaaGreatLinesUptoT12
import Derived.Maps.RangeWalk
import Derived.Maps.OwnSet
import Derived.Test.YtcfngdnmpogaoaaGreatLinesUptoT10
import Derived.Maps.Ext

/-
  do, of the first event and of a mark that ends the one run.
-/
namespace Go.Proofs.YtcfngdnmpogaoaaGreat
open Go.RowKit Go.MuLone

set_option maxRecDepth 20000 in
set_option maxHeartbeats 1600000 in
theorem do_mark_of (g n : Nat) (r : SCells) (s : SSrc) (key : ByteArray) (t v : Int) (tag : Int) (w : World) (h : SF w g r) (hs : r.src[n]? = some s) (Q : World → Prop)
    (hm : ∀ W, SF W g (r.addMark.setSrc n (s.raised (clampT t))) → Kept (fun k => k = g) w W → Calls Tryz.prog 77 #[.pointer (some ⟨g, 0, none⟩)] W fun e w' => e = .returned (.tuple #[]) ∧ Q w') :
    Calls Tryz.prog 72 #[.pointer (some ⟨g, 0, none⟩), .pointer (some ⟨g, 6 + n * 5, none⟩), itemV 2 key t v tag] w fun e w' => e = .returned (.tuple #[]) ∧ Q w' := by
  have hglt := h.lt
  have H : Hid (SF w g r) := h
  have fz : ∀ j, w.frozen? ⟨g, j, none⟩ = false := h.frozen
  clear h
  unfold itemV
  have hn : n < r.src.length := (List.getElem?_eq_some_iff.1 hs).1
  have HR : Hid (∀ W, SF W g (r.addMark.setSrc n (s.raised (clampT t))) → Kept (fun k => k = g) w W → Calls Tryz.prog 77 #[.pointer (some ⟨g, 0, none⟩)] W fun e w' => e = .returned (.tuple #[]) ∧ Q w') := hm
  clear hm
  have hBg : ¬ w.heap.size = g := by omega
  have hgB : ¬ g = w.heap.size := by omega
  go_enter Tryz.func72, Tryz.ntmps72
  go_wp2_with fail
  have d2 : (w.alloc (.cells #[.int .i64 2, .string key, .int .i64 t, .int .i64 v, .int .u32 tag] 28)).cell? ⟨w.heap.size, 2, none⟩ = some (.int .i64 t) := by simp
  have H1 : Hid (SF (w.alloc (.cells #[.int .i64 2, .string key, .int .i64 t, .int .i64 v, .int .u32 tag] 28)) g r) := H.out.congr (Below.heap_alloc _ _ _ hglt)
  have K1 : Hid (Kept (fun k => k = g) w (w.alloc (.cells #[.int .i64 2, .string key, .int .i64 t, .int .i64 v, .int .u32 tag] 28))) := (Kept.refl _ w).alloc _
  generalize w.alloc (.cells #[.int .i64 2, .string key, .int .i64 t, .int .i64 v, .int .u32 tag] 28) = W1 at *
  generalize hB : w.heap.size = B at *
  clear hB
  refine (add_any g 54 r.n.marks 1 W1 (H1.out.tailAt 8 rfl) (H1.out.frozen _)).mono ?_
  rintro e W2 ⟨rfl, rfl⟩
  have H2 : Hid (SF (W1.setCell ⟨g, 54, none⟩ (.int .i64 (wrap64 (r.n.marks + 1)))) g r.addMark) := H1.out.putTail 8 _ rfl rfl rfl
  have K2 : Hid (Kept (fun k => k = g) w (W1.setCell ⟨g, 54, none⟩ (.int .i64 (wrap64 (r.n.marks + 1))))) := K1.out.setCell ⟨g, 54, none⟩ _ (fun _ => rfl)
  have e2 : (W1.setCell ⟨g, 54, none⟩ (.int .i64 (wrap64 (r.n.marks + 1)))).cell? ⟨B, 2, none⟩ = some (.int .i64 t) := by rw [World.cell?_setCell_far _ _ _ _ (by simpa using hgB)]; exact d2
  generalize W1.setCell ⟨g, 54, none⟩ (.int .i64 (wrap64 (r.n.marks + 1))) = W2 at *
  clear d2 fz
  go_wp2_with fail
  refine wp_region_still_tail 7 (by kernel_rfl) (by kernel_rfl) ?_
  simp only [List.take_succ_cons, List.take_zero, List.drop_succ_cons, List.drop_zero]
  change wpStill Tryz.prog _ W2.drew (fun a' => wpList Tryz.prog _ _ _ a' W2.drew) _ _
  have e2 : W2.drew.cell? ⟨B, 2, none⟩ = some (.int .i64 t) := e2
  have H3 : Hid (SF W2.drew g r.addMark) := H2.out.congr rfl
  have K3 : Hid (Kept (fun k => k = g) w W2.drew) := K2.out.drew
  generalize W2.drew = W3 at *
  repeat still_step
  refine wpStill_nil ?_
  have hcl : (if 2305843009213693952 < if t < -2305843009213693952 then -2305843009213693952 else t then 2305843009213693952 else if t < -2305843009213693952 then -2305843009213693952 else t) = clampT t := rfl
  rw [hcl]
  clear hcl
  generalize (if t < -2305843009213693952 then -2305843009213693952 else t) = T0
  obtain ⟨T, HT⟩ : ∃ T, Hid (clampT t = T) := ⟨_, rfl⟩
  rw [HT.out]
  rw [HT.out] at HR
  have c3 : W3.cell? ⟨g, 6 + n * 5 + 3, none⟩ = some (.int .i64 s.time) := H3.out.cell (r.addMark.srcAt n 3 s hs (by omega))
  have c4 : W3.cell? ⟨g, 6 + n * 5 + 3 + 1, none⟩ = some (.bool s.is) := H3.out.cell (r.addMark.srcAt n 4 s hs (by omega))
  by_cases hup : s.is = false ∨ s.time < T
  · have HQ : Hid (Calls Tryz.prog 98 #[.pointer (some ⟨g, 6 + n * 5 + 3, none⟩), .int .i64 T] W3 fun e w' => e = .returned (.tuple #[]) ∧ w' = (W3.setCell ⟨g, 6 + n * 5 + 3, none⟩ (.int .i64 T)).setCell ⟨g, 6 + n * 5 + 3 + 1, none⟩ (.bool true)) := raise_yes g _ s.time T s.is W3 c3 c4 H3.out.frozen hup
    have HS : Hid (s.raised T = ⟨s.opened, s.broken, s.unread, T, true⟩) := by show _ = _; rw [SSrc.raised, if_pos hup]
    clear c3 c4 e2
    go_wp2_with fail
    refine HQ.out.mono ?_
    rintro e W4 ⟨rfl, rfl⟩
    have H4 : Hid (SF ((W3.setCell ⟨g, 6 + n * 5 + 3, none⟩ (.int .i64 T)).setCell ⟨g, 6 + n * 5 + 3 + 1, none⟩ (.bool true)) g (r.addMark.setSrc n (s.raised T))) := by show SF _ _ _; rw [HS.out]; exact H3.out.putMoment n s T true hs
    have K4 : Hid (Kept (fun k => k = g) w ((W3.setCell ⟨g, 6 + n * 5 + 3, none⟩ (.int .i64 T)).setCell ⟨g, 6 + n * 5 + 3 + 1, none⟩ (.bool true))) := (K3.out.setCell ⟨g, _, none⟩ _ (fun _ => rfl)).setCell ⟨g, _, none⟩ _ (fun _ => rfl)
    generalize (W3.setCell ⟨g, 6 + n * 5 + 3, none⟩ (.int .i64 T)).setCell ⟨g, 6 + n * 5 + 3 + 1, none⟩ (.bool true) = W5 at *
    go_wp2_with fail
    refine (HR.out W5 H4.out K4.out).mono ?_
    rintro e W6 ⟨rfl, h6⟩
    have H6 : Hid (Q W6) := h6
    clear h6
    go_wp2
    go_end0
    exact ⟨rfl, H6.out⟩
  · have hsi : s.is = true := by cases h : s.is <;> simp [h] at hup ⊢
    have HQ : Hid (Calls Tryz.prog 98 #[.pointer (some ⟨g, 6 + n * 5 + 3, none⟩), .int .i64 T] W3 fun e w' => e = .returned (.tuple #[]) ∧ w' = W3) := raise_no g _ s.time T W3 c3 (by rw [c4, hsi]) (fun h => hup (.inr h))
    have HS : Hid (r.addMark.setSrc n (s.raised T) = r.addMark) := by
      show _ = _
      rw [SSrc.raised, if_neg hup, SCells.setSrc]
      have : r.addMark.src.set n s = r.addMark.src := List.ext_getElem? (fun i => by
        rw [List.getElem?_set]
        split
        · rename_i h; subst h
          rw [if_pos (show n < r.addMark.src.length from hn)]; exact hs.symm
        · rfl)
      rw [this]
    have H4 : Hid (SF W3 g (r.addMark.setSrc n (s.raised T))) := by show SF _ _ _; rw [HS.out]; exact H3.out
    clear c3 c4 e2
    go_wp2_with fail
    refine HQ.out.mono ?_
    rintro e W4 ⟨rfl, rfl⟩
    go_wp2_with fail
    refine (HR.out _ H4.out K3.out).mono ?_
    rintro e W6 ⟨rfl, h6⟩
    have H6 : Hid (Q W6) := h6
    clear h6
    go_wp2
    go_end0
    exact ⟨rfl, H6.out⟩


set_option maxRecDepth 20000 in
set_option maxHeartbeats 1600000 in
theorem do_event_of (g : Nat) (sp : Value) (key : ByteArray) (t v : Int) (tag : Nat) (w : World) (P Q : World → Prop)
    (hd : ∀ W, Below w.heap.size w W → Calls Tryz.prog 99 #[.pointer (some ⟨g, 0, none⟩), sp, itemV 1 key t v tag] W fun e w' => e = .returned (.tuple #[]) ∧ P w')
    (hm : ∀ W, P W → Calls Tryz.prog 77 #[.pointer (some ⟨g, 0, none⟩)] W fun e w' => e = .returned (.tuple #[]) ∧ Q w') :
    Calls Tryz.prog 72 #[.pointer (some ⟨g, 0, none⟩), sp, itemV 1 key t v tag] w fun e w' => e = .returned (.tuple #[]) ∧ Q w' := by
  have HD : Hid (∀ W, Below w.heap.size w W → Calls Tryz.prog 99 #[.pointer (some ⟨g, 0, none⟩), sp, itemV 1 key t v tag] W fun e w' => e = .returned (.tuple #[]) ∧ P w') := hd
  have HM : Hid (∀ W, P W → Calls Tryz.prog 77 #[.pointer (some ⟨g, 0, none⟩)] W fun e w' => e = .returned (.tuple #[]) ∧ Q w') := hm
  clear hd hm
  unfold itemV
  go_enter Tryz.func72, Tryz.ntmps72
  go_wp2_with fail
  refine (HD.out _ ((Below.refl _ w).alloc (Nat.le_refl _) _)).mono ?_
  rintro e W ⟨rfl, hp⟩
  have HP : Hid (P W) := hp
  clear hp
  go_wp2_with fail
  refine (HM.out _ HP.out).mono ?_
  rintro e W2 ⟨rfl, hq⟩
  have HQ : Hid (Q W2) := hq
  clear hq
  go_wp2
  go_end0
  exact ⟨rfl, HQ.out⟩
end Go.Proofs.YtcfngdnmpogaoaaGreat

/-
  The flow of 'known': the event at 5 is fed, then the mark 10.
-/
namespace Go.Proofs.YtcfngdnmpogaoaaGreat
open Go.RowKit Go.MuLone

/-- The flow of 'known', state by state. -/
def kn (s0 : SSrc) (lk lt : Int) (li : Bool) (going ended : Value) (taken marks : Int) : SCells :=
  ⟨lk, 10, 10, 0, 1, [s0, SSrc.zero, SSrc.zero, SSrc.zero, SSrc.zero, SSrc.zero, SSrc.zero, SSrc.zero], lt, li, going, ended, ⟨taken, 0, 0, 0, marks, 0⟩⟩

theorem kn_fits (t lk lt : Int) (i : Bool) (li : Bool) (going ended : Value) (taken marks : Int) (h : 0 ≤ t ∧ t ≤ 100) : (kn ⟨true, false, .slice none 0 0, t, i⟩ lk lt li going ended taken marks).Fits := by
  refine ⟨fun s hs => ?_, by show (0 : Int) ≤ 0 ∧ (0 : Int) ≤ 1099511627776; omega⟩
  simp only [kn, List.mem_cons, List.not_mem_nil, or_false] at hs
  rcases hs with rfl | rfl | rfl | rfl | rfl | rfl | rfl | rfl <;> simp [SSrc.zero] <;> omega

theorem kn_first (gv : Value) : (((kn srcO 1 0 false (.slice none 0 0) (.slice none 0 0) 0 0).addTaken.setGoing gv).setSrc 0 (srcO.raised 5)).moved = kn (srcM 5) 1 5 true gv (.slice none 0 0) 1 0 := by
  have e : wrap64 (0 + 1) = 1 := by unfold wrap64; omega
  have e1 : ((kn srcO 1 0 false (.slice none 0 0) (.slice none 0 0) 0 0).addTaken.setGoing gv).setSrc 0 (srcO.raised 5) = kn (srcM 5) 1 0 false gv (.slice none 0 0) 1 0 := by
    rw [srcO_raised]
    show kn (srcM 5) 1 0 false gv (.slice none 0 0) (wrap64 (0 + 1)) 0 = _
    rw [e]
  rw [e1]
  rfl
theorem kn_mark (gv : Value) : ((kn (srcM 5) 1 5 true gv (.slice none 0 0) 1 0).addMark.setSrc 0 ((srcM 5).raised (clampT 10))).moved = kn (srcM 10) 1 10 true gv (.slice none 0 0) 1 1 := by
  have e : wrap64 (0 + 1) = 1 := by unfold wrap64; omega
  have e1 : (kn (srcM 5) 1 5 true gv (.slice none 0 0) 1 0).addMark.setSrc 0 ((srcM 5).raised (clampT 10)) = kn (srcM 10) 1 5 true gv (.slice none 0 0) 1 1 := by
    rw [clampT_id 10 (by omega) (by omega)]
    show kn ((srcM 5).raised 10) 1 5 true gv (.slice none 0 0) 1 (wrap64 (0 + 1)) = _
    rw [e, SSrc.raised, if_pos (.inr (by decide))]
  rw [e1]
  rfl

/-- The event of 'known'. -/
abbrev keyK : ByteArray := ⟨#[107]⟩
abbrev DK : DataW Unit := (DataW.map []).put (.int .u32 ((9 : Nat) : Int)) (.agg [])
theorem winK : winFirst 10 10 5 = 0 ∧ winLast 10 5 = 0 := by decide
theorem numK : wrap64 (0 + 1) = 1 ∧ wrap64 (0 + 3) = 3 ∧ minV 9223372036854775807 3 = 3 ∧ maxV (-9223372036854775808) 3 = 3 := by
  refine ⟨by unfold wrap64; omega, by unfold wrap64; omega, by decide, by decide⟩

/-- The one run of 'known'. -/
abbrev OneK (w : World) (g : Nat) (r : SCells) (gv : Value) (R P M b : Nat) (pv : Value) : Prop := OneF w g r gv R P M b pv keyK 0 0 1 3 3 3 1 DK

theorem do_known1 (g : Nat) (w : World) (h : SF w g (kn srcO 1 0 false (.slice none 0 0) (.slice none 0 0) 0 0)) :
    Calls Tryz.prog 72 #[.pointer (some ⟨g, 0, none⟩), .pointer (some ⟨g, 6 + 0 * 5, none⟩), itemV 1 keyK 5 3 ((9 : Nat) : Int)] w fun e w' => e = .returned (.tuple #[]) ∧ (∃ R P M b pv gv, OneK w' g (kn (srcM 5) 1 5 true gv (.slice none 0 0) 1 0) gv R P M b pv ∧ NewAt w.heap.size R b pv gv) ∧ Kept (fun k => k = g) w w' := by
  refine do_event_of g _ keyK 5 3 9 w (fun W => (∃ R P M b pv gv, OneK W g (((kn srcO 1 0 false (.slice none 0 0) (.slice none 0 0) 0 0).addTaken.setGoing gv).setSrc 0 (srcO.raised 5)) gv R P M b pv ∧ NewAt w.heap.size R b pv gv) ∧ Kept (fun k => k = g) w W) _ (fun W hb => ?_) (fun W hW => ?_)
  · refine (doEvent_first g 0 _ srcO keyK 5 3 9 W (h.below hb h.lt) rfl rfl rfl (by decide) (by decide) (by decide) (by decide) (by decide) (by decide) (by decide)).mono ?_
    rintro e w' ⟨rfl, R, P, M, b, pv, gv, h1, h2, hnew⟩
    refine ⟨rfl, ⟨R, P, M, b, pv, gv, ?_, hnew.mono hb.size⟩, (Kept.ofBelow hb _).trans h2⟩
    have hw : winFirst 10 10 5 = 0 := winK.1
    have hl : winLast 10 5 = 0 := winK.2
    obtain ⟨n1, n2, n3, n4⟩ := numK
    have e1 : winFirst (kn srcO 1 0 false (.slice none 0 0) (.slice none 0 0) 0 0).size (kn srcO 1 0 false (.slice none 0 0) (.slice none 0 0) 0 0).slide 5 = 0 := hw
    have e2 : winLast (kn srcO 1 0 false (.slice none 0 0) (.slice none 0 0) 0 0).slide 5 = 0 := hl
    rw [e1, e2, n1, n2, n3, n4] at h1
    exact h1
  · obtain ⟨⟨R, P, M, b, pv, gv, hO, hnew⟩, hk⟩ := hW
    have hm := kn_first gv
    have hl : leastF (((kn srcO 1 0 false (.slice none 0 0) (.slice none 0 0) 0 0).addTaken.setGoing gv).setSrc 0 (srcO.raised 5)).src = (5, true) := by rw [srcO_raised]; rfl
    refine moveLine_of g _ W hO.sf (fun k => k = g) rfl (fun w' => (∃ R P M b pv gv, OneK w' g (kn (srcM 5) 1 5 true gv (.slice none 0 0) 1 0) gv R P M b pv ∧ NewAt w.heap.size R b pv gv) ∧ Kept (fun k => k = g) w w') (fun w' _ _ hf => by rw [hl] at hf; cases hf) (by rw [hl]; show IntKind.i64.wrap ((5 : Int) - 0) = 5 - 0; decide) (fun W2 h2 k2 _ => ?_)
    rw [hm] at h2
    refine (endRuns_no g (kn (srcM 5) 1 5 true gv (.slice none 0 0) 1 0) gv R P M b pv keyK 0 0 1 3 3 3 1 DK W2 (hO.kept k2 h2) rfl (by show IntKind.i64.wrap ((0 : Int) + 10) = 0 + 10; decide) (by show decide ((0 : Int) + 10 ≤ 5) = false; decide)).mono ?_
    rintro e w' ⟨rfl, h3, k3⟩
    exact ⟨rfl, ⟨R, P, M, b, pv, gv, h3, hnew⟩, (hk.trans k2).trans k3⟩

theorem do_known2 (g : Nat) (w : World) (R P M b : Nat) (pv gv : Value) (key : ByteArray) (tag v : Int) (h : OneK w g (kn (srcM 5) 1 5 true gv (.slice none 0 0) 1 0) gv R P M b pv) :
    Calls Tryz.prog 72 #[.pointer (some ⟨g, 0, none⟩), .pointer (some ⟨g, 6 + 0 * 5, none⟩), itemV 2 key 10 v tag] w fun e w' => e = .returned (.tuple #[]) ∧ (∃ ev gv', OneK w' g (kn (srcM 10) 1 10 true gv' ev 1 1) ev R P M b pv ∧ Row w' 150 1 gv' []) ∧ Kept (fun k => k = g ∨ gv.ownBlock = some k) w w' := by
  have hl : leastF ((kn (srcM 5) 1 5 true gv (.slice none 0 0) 1 0).addMark.setSrc 0 ((srcM 5).raised (clampT 10))).src = (10, true) := by
    have := congrArg SCells.src (kn_mark gv)
    rw [SCells.moved_src] at this
    rw [this]; rfl
  have hlate : ((kn (srcM 5) 1 5 true gv (.slice none 0 0) 1 0).addMark.setSrc 0 ((srcM 5).raised (clampT 10))).late = 0 := rfl
  refine do_mark_of g 0 _ (srcM 5) key 10 v tag w h.sf rfl _ (fun W hs hk => ?_)
  refine moveLine_of g _ W hs (fun k => k = g) rfl (fun w' => (∃ ev gv', OneK w' g (kn (srcM 10) 1 10 true gv' ev 1 1) ev R P M b pv ∧ Row w' 150 1 gv' []) ∧ Kept (fun k => k = g ∨ gv.ownBlock = some k) w w') (fun w' _ _ hf => by rw [hl] at hf; cases hf) (by rw [hl, hlate]; decide) (fun W2 h2 k2 _ => ?_)
  rw [kn_mark] at h2
  have hO := (h.kept (hk.trans k2) h2)
  refine (endRuns_yes g (kn (srcM 10) 1 10 true gv (.slice none 0 0) 1 1) gv R P M b pv keyK 0 0 1 3 3 3 1 DK W2 hO rfl rfl (by show IntKind.i64.wrap ((0 : Int) + 10) = 0 + 10; decide) (by show decide ((0 : Int) + 10 ≤ 10) = true; decide)).mono ?_
  rintro e w' ⟨rfl, ev, gv', h3, h4, k3⟩
  exact ⟨rfl, ⟨ev, gv', h3, h4⟩, ((hk.trans k2).mono (fun k _ h => .inl h)).trans k3⟩

theorem eventK : isItemB 1 keyK 3 ((9 : Nat) : Int) = true := by decide

theorem feed_known1 (g : Nat) (bv : Value) (w : World) (h : SF w g (kn srcO 0 0 false (.slice none 0 0) (.slice none 0 0) 0 0)) (hrow : Row w 5 1 bv ((frameBytes 1 keyK 5 3 9).map byteV)) :
    Calls Tryz.prog 20 #[.pointer (some ⟨g, 0, none⟩), .int .i64 ((0 : Nat) : Int), bv] w fun e w' => e = .returned (.int .i64 0) ∧ (∃ R P M b pv gv, OneK w' g (kn (srcM 5) 0 5 true gv (.slice none 0 0) 1 0) gv R P M b pv ∧ NewAt w.heap.size R b pv gv) ∧ Kept (fun k => k = g) w w' := by
  obtain ⟨hl1, hl2⟩ := frame_long (kind := 1) (key := keyK) (time := 5) (value := 3) (tag := 9) eventK (by decide) (by decide) (by decide) (by decide) (by decide) []
  rw [List.append_nil] at hl1 hl2
  obtain ⟨hv, -, -⟩ := unf_frame (kind := 1) (key := keyK) (time := 5) (value := 3) (tag := 9) eventK (by decide) (by decide) (by decide) (by decide) (by decide) []
  rw [List.append_nil] at hv
  have hd : (frameBytes 1 keyK 5 3 9).drop (((frameBytes 1 keyK 5 3 9).getD 0 0).toNat + 3) = [] := by
    have h1 := frame_head (time := 5) eventK []
    rw [List.append_nil] at h1
    have h2 := frame_len (time := 5) eventK
    rw [List.drop_of_length_le]
    rw [h1, h2]
    exact Nat.le_refl _
  have hlen : (frameBytes 1 keyK 5 3 9).length ≤ 33 := by
    have h2 := frame_len (time := 5) eventK
    have h3 := itemBody_len (time := 5) eventK
    omega
  have hlk : (kn srcO 0 0 false (.slice none 0 0) (.slice none 0 0) 0 0).lock 1 = kn srcO 1 0 false (.slice none 0 0) (.slice none 0 0) 0 0 := rfl
  refine (feed_of g 0 _ srcO bv w h rfl rfl rfl (fun W => (∃ R P M b pv gv, OneK W g (kn (srcM 5) 1 5 true gv (.slice none 0 0) 1 0) gv R P M b pv ∧ NewAt w.heap.size R b pv gv) ∧ Kept (fun k => k = g) w W) (fun W hW => ?_) (fun W1 h1 k1 => ?_)).mono ?_
  · obtain ⟨⟨R, P, M, b, pv, gv, hO, _⟩, _⟩ := hW
    exact ⟨hO.sf.lockAt rfl, hO.sf.frozen _⟩
  · rw [hlk] at h1
    refine read_of g (6 + 0 * 5) (.slice none 0 0) bv [] (frameBytes 1 keyK 5 3 9) W1 _ (fun W L => Kept (fun k => k = g) w W ∧ ((L = frameBytes 1 keyK 5 3 9 ∧ SF W g (kn srcO 1 0 false (.slice none 0 0) (.slice none 0 0) 0 0)) ∨ (L = [] ∧ ∃ R P M b pv gv, OneK W g (kn (srcM 5) 1 5 true gv (.slice none 0 0) 1 0) gv R P M b pv ∧ NewAt w.heap.size R b pv gv)))
      (h1.cell (SCells.srcAt _ 0 1 srcO rfl (by omega))) (h1.cell (SCells.srcAt _ 0 2 srcO rfl (by omega))) (Row.nil _ _ _) (hrow.bytes8 (k1.bytes8 h)) (by simp; omega)
      ⟨k1, .inl ⟨by simp, h1⟩⟩ ?_ ?_ ?_ ?_
    · rintro W W' L ⟨hk, hc⟩ hbl
      refine ⟨hk.trans (Kept.ofBelow hbl _), ?_⟩
      rcases hc with ⟨e, hsf⟩ | ⟨e, R, P, M, b, pv, gv, hO, hnew⟩
      · exact .inl ⟨e, hsf.below hbl hsf.lt⟩
      · exact .inr ⟨e, R, P, M, b, pv, gv, hO.kept (Kept.ofBelow hbl _) (hO.sf.below hbl hO.sf.lt), hnew⟩
    · rintro W L ⟨hk, hc⟩ hsh hok _
      rcases hc with ⟨rfl, hsf⟩ | ⟨rfl, _⟩
      · rw [hv]
        refine (do_known1 g W hsf).mono ?_
        rintro e W' ⟨rfl, ⟨R, P, M, b, pv, gv, h2, hnew⟩, k2⟩
        exact ⟨rfl, ⟨hk.trans k2, .inr ⟨hd, R, P, M, b, pv, gv, h2, hnew.mono hk.size⟩⟩, k2.bytes8 hsf⟩
      · simp [unfShort] at hsh
    · rintro W L ⟨hk, hc⟩ hsh hok
      rcases hc with ⟨rfl, hsf⟩ | ⟨rfl, _⟩
      · rw [hl2] at hok; cases hok
      · simp [unfShort] at hsh
    · rintro W L v ⟨hk, hc⟩ hsh hr hnil
      rcases hc with ⟨rfl, hsf⟩ | ⟨rfl, R, P, M, b, pv, gv, hO, hnew⟩
      · rw [hl1] at hsh; cases hsh
      · obtain rfl := hnil rfl
        have k3 : Kept (fun k => k = g) W (W.setCell ⟨g, 6 + 0 * 5 + 2, none⟩ (.slice none 0 0)) := (Kept.refl _ W).setCell ⟨g, _, none⟩ _ (fun _ => rfl)
        have s3 := hO.sf.putSrc 0 2 (srcM 5) (srcM 5) (.slice none 0 0) rfl (by omega) rfl
        rw [setSrc_self _ _ _ (show (kn (srcM 5) 1 5 true gv (.slice none 0 0) 1 0).src[0]? = some (srcM 5) from rfl)] at s3
        exact ⟨⟨_, hO.sf.cell (SCells.srcAt _ 0 2 (srcM 5) rfl (by omega))⟩, hO.sf.frozen _, ⟨R, P, M, b, pv, gv, hO.kept k3 s3, hnew⟩, hk.trans k3⟩
  · rintro e w' ⟨rfl, W, ⟨⟨R, P, M, b, pv, gv, hO, hnew⟩, h2⟩, rfl⟩
    have k3 : Kept (fun k => k = g) W (W.setCell ⟨g, 0, none⟩ (.int .i32 0)) := (Kept.refl _ W).setCell ⟨g, _, none⟩ _ (fun _ => rfl)
    exact ⟨rfl, ⟨R, P, M, b, pv, gv, hO.kept k3 (hO.sf.putLock 0), hnew⟩, h2.trans k3⟩
end Go.Proofs.YtcfngdnmpogaoaaGreat

/-
  The mark of 'known' fed: the one run ends.
-/
namespace Go.Proofs.YtcfngdnmpogaoaaGreat
open Go.RowKit Go.MuLone

theorem feed_known2 (g : Nat) (bv : Value) (w : World) (R P M b : Nat) (pv gv : Value) (h : OneK w g (kn (srcM 5) 0 5 true gv (.slice none 0 0) 1 0) gv R P M b pv) (hrow : Row w 5 1 bv ((markB 10).map byteV)) :
    Calls Tryz.prog 20 #[.pointer (some ⟨g, 0, none⟩), .int .i64 ((0 : Nat) : Int), bv] w fun e w' => e = .returned (.int .i64 0) ∧ (∃ ev gv', OneK w' g (kn (srcM 10) 0 10 true gv' ev 1 1) ev R P M b pv ∧ Row w' 150 1 gv' []) ∧ Kept (fun k => k = g ∨ gv.ownBlock = some k) w w' := by
  obtain ⟨hl1, hl2⟩ := frame_long (kind := 2) (key := ⟨#[]⟩) (time := 10) (value := 0) (tag := 0) item_mark2 (by decide) (by decide) (by decide) (by decide) (by decide) []
  rw [List.append_nil] at hl1 hl2
  obtain ⟨hv, -, -⟩ := unf_frame (kind := 2) (key := ⟨#[]⟩) (time := 10) (value := 0) (tag := 0) item_mark2 (by decide) (by decide) (by decide) (by decide) (by decide) []
  rw [List.append_nil] at hv
  have hd : (markB 10).drop (((markB 10).getD 0 0).toNat + 3) = [] := by
    have h1 := frame_head (time := 10) item_mark2 []
    rw [List.append_nil] at h1
    have h2 := frame_len (time := 10) item_mark2
    rw [List.drop_of_length_le]
    show (frameBytes 2 ⟨#[]⟩ 10 0 0).length ≤ ((frameBytes 2 ⟨#[]⟩ 10 0 0).getD 0 0).toNat + 3
    rw [h1, h2]
    exact Nat.le_refl _
  have hlen : (markB 10).length ≤ 33 := by
    have h2 := frame_len (time := 10) item_mark2
    have h3 := itemBody_len (time := 10) item_mark2
    show (frameBytes 2 ⟨#[]⟩ 10 0 0).length ≤ 33
    omega
  have hlk : (kn (srcM 5) 0 5 true gv (.slice none 0 0) 1 0).lock 1 = kn (srcM 5) 1 5 true gv (.slice none 0 0) 1 0 := rfl
  refine (feed_of g 0 _ (srcM 5) bv w h.sf rfl rfl rfl (fun W => (∃ ev gv', OneK W g (kn (srcM 10) 1 10 true gv' ev 1 1) ev R P M b pv ∧ Row W 150 1 gv' []) ∧ Kept (fun k => k = g ∨ gv.ownBlock = some k) w W) (fun W hW => ?_) (fun W1 h1 k1 => ?_)).mono ?_
  · obtain ⟨⟨ev, gv', hO, _⟩, _⟩ := hW
    exact ⟨hO.sf.lockAt rfl, hO.sf.frozen _⟩
  · rw [hlk] at h1
    refine read_of g (6 + 0 * 5) (.slice none 0 0) bv [] (markB 10) W1 _ (fun W L => Kept (fun k => k = g ∨ gv.ownBlock = some k) w W ∧ ((L = markB 10 ∧ OneK W g (kn (srcM 5) 1 5 true gv (.slice none 0 0) 1 0) gv R P M b pv) ∨ (L = [] ∧ ∃ ev gv', OneK W g (kn (srcM 10) 1 10 true gv' ev 1 1) ev R P M b pv ∧ Row W 150 1 gv' [])))
      (h1.cell (SCells.srcAt _ 0 1 (srcM 5) rfl (by omega))) (h1.cell (SCells.srcAt _ 0 2 (srcM 5) rfl (by omega))) (Row.nil _ _ _) (hrow.bytes8 (k1.bytes8 h.sf)) (by simp; omega)
      ⟨k1.mono (fun k _ e => .inl e), .inl ⟨by simp, h.kept k1 h1⟩⟩ ?_ ?_ ?_ ?_
    · rintro W W' L ⟨hk, hc⟩ hbl
      refine ⟨hk.trans (Kept.ofBelow hbl _), ?_⟩
      rcases hc with ⟨e, hO⟩ | ⟨e, ev, gv', hO, hr⟩
      · exact .inl ⟨e, hO.kept (Kept.ofBelow hbl _) (hO.sf.below hbl hO.sf.lt)⟩
      · exact .inr ⟨e, ev, gv', hO.kept (Kept.ofBelow hbl _) (hO.sf.below hbl hO.sf.lt), hr.below hbl (fun k hk => (hr.blk_lt hk).1)⟩
    · rintro W L ⟨hk, hc⟩ hsh hok _
      rcases hc with ⟨rfl, hO⟩ | ⟨rfl, _⟩
      · rw [hv]
        refine (do_known2 g W R P M b pv gv ⟨#[]⟩ ((0 : Nat) : Int) 0 hO).mono ?_
        rintro e W' ⟨rfl, h2, k2⟩
        refine ⟨rfl, ⟨hk.trans k2, .inr ⟨hd, h2⟩⟩, fun k c f hkk => ?_⟩
        rw [k2.block k (blkLt hkk) ?_]
        · exact hkk
        · rintro (rfl | e)
          · rw [hO.sf.blk] at hkk
            simp only [Option.some.injEq, Obj.cells.injEq] at hkk
            exact absurd hkk.2.1 (by decide)
          · obtain ⟨_, c', hc'⟩ := hO.row.blk_lt e
            rw [hc'] at hkk
            simp only [Option.some.injEq, Obj.cells.injEq] at hkk
            exact absurd hkk.2.1 (by decide)
      · simp [unfShort] at hsh
    · rintro W L ⟨hk, hc⟩ hsh hok
      rcases hc with ⟨rfl, hsf⟩ | ⟨rfl, _⟩
      · rw [hl2] at hok; cases hok
      · simp [unfShort] at hsh
    · rintro W L v ⟨hk, hc⟩ hsh hr hnil
      rcases hc with ⟨rfl, hsf⟩ | ⟨rfl, ev, gv', hO, hr'⟩
      · rw [hl1] at hsh; cases hsh
      · obtain rfl := hnil rfl
        have k3 : Kept (fun k => k = g) W (W.setCell ⟨g, 6 + 0 * 5 + 2, none⟩ (.slice none 0 0)) := (Kept.refl _ W).setCell ⟨g, _, none⟩ _ (fun _ => rfl)
        have s3 := hO.sf.putSrc 0 2 (srcM 10) (srcM 10) (.slice none 0 0) rfl (by omega) rfl
        rw [setSrc_self _ _ _ (show (kn (srcM 10) 1 10 true gv' ev 1 1).src[0]? = some (srcM 10) from rfl)] at s3
        exact ⟨⟨_, hO.sf.cell (SCells.srcAt _ 0 2 (srcM 10) rfl (by omega))⟩, hO.sf.frozen _, ⟨ev, gv', hO.kept k3 s3, hr'.congr (fun k hq => k3.block k (hr'.blk_lt hq).1 (fun e => by subst e; exact hr'.ne_block hO.sf.blk (by decide) hq))⟩, hk.trans (k3.mono (fun k _ e => .inl e))⟩
  · rintro e w' ⟨rfl, W, ⟨⟨ev, gv', hO, hr'⟩, h2⟩, rfl⟩
    have k3 : Kept (fun k => k = g) W (W.setCell ⟨g, 0, none⟩ (.int .i32 0)) := (Kept.refl _ W).setCell ⟨g, _, none⟩ _ (fun _ => rfl)
    exact ⟨rfl, ⟨ev, gv', hO.kept k3 (hO.sf.putLock 0), hr'.congr (fun k hq => k3.block k (hr'.blk_lt hq).1 (fun e => by subst e; exact hr'.ne_block hO.sf.blk (by decide) hq))⟩, h2.trans (k3.mono (fun k _ e => .inl e))⟩
end Go.Proofs.YtcfngdnmpogaoaaGreat

/-
  The parts: the tags' counts.
-/
namespace Go.Proofs.YtcfngdnmpogaoaaGreat
open Go.RowKit Go.MuLone

theorem zeroInt (w : World) : (zeroValue 3).run Tryz.prog w = .ok (.int .i64 0) w := Tryz.zeroValue3 w

/-- The tags of one pane with one tag. -/
theorem has_one {d : DataW Unit} {k kl : Lit} (h : Maps.has ((DataW.map (H := Unit) []).put k d) kl = true) : kl = k := by
  by_cases he : kl = k
  · exact he
  · rw [Maps.has_put_other he] at h
    simp [Maps.has] at h

theorem keyTag (t : Nat) (ht : t < 4294967296) : keyOf Tryz.prog 26 (.int .u32 (t : Int)) = some (.int .u32 (t : Int)) := by
  rw [keyOf, Tryz.underlying26]
  have h1 : (Lit.int .u32 (t : Int)).wf = true := by
    simp [Lit.wf, IntKind.min, IntKind.max, IntKind.signed, IntKind.bits]
    omega
  simp [mapKey, h1]

set_option maxRecDepth 20000 in
set_option maxHeartbeats 3200000 in
theorem tags_enter (TM P M tag : Nat) (first last count sum least greatest : Int) (w : World) (_ht : tag < 4294967296) (hp : w.heap[P]? = some (.cells (paneCells first last count sum least greatest M) 207 (0, 0)))
    (hM : w.ownsMap Tryz.prog 26 (unitElem (H := Unit)) M 1 ((DataW.map []).put (.int .u32 (tag : Int)) (.agg []))) (hT : w.ownsMap Tryz.prog 26 (plainElem (H := Unit) Tryz.prog 3) TM 0 (.map [])) (hMT : M ≠ TM) :
    Calls Tryz.prog 213 #[.map (some TM), .pointer (some ⟨P, 0, none⟩)] w fun e w' => e = .returned (.tuple #[]) ∧ w'.ownsMap Tryz.prog 26 (plainElem (H := Unit) Tryz.prog 3) TM 1 ((DataW.map []).put (.int .u32 (tag : Int)) (.lit (.int .i64 1))) ∧ Kept (fun k => k = TM) w w' := by
  obtain ⟨-, -, -, -, -, -, c6, -⟩ := paneAt hp
  have hTs := hT.lt
  have hMs := hM.lt
  go_enter Tryz.func213, Tryz.ntmps213
  go_wp2_with (first | (at_range; refine wpList_range_own _ rfl _ 205 rfl 26 97 keyedU Tryz.underlying205 _ M 1 _ rfl hM ?_; intro w0 hrg0 hg0 hs0))
  go_frame
  refine wp_loop_rounds 2 ?_
  rw [rounds_succ]
  go_wp2_with (first | (at_next; refine wpList_next_ranges _ rfl _ rfl 26 keyedU _ (fun x : Int => .int .u32 x) (fun _ : Unit => .agg #[]) (fun key kl h => by obtain ⟨x, h1, _⟩ := Maps.keyOf_int_inv Tryz.underlying26 h; exact ⟨x, h1⟩) (fun v y h => ⟨(), (unitElem_inv h).1⟩) M w.heap.size 1 _ _ _ rfl hrg0 ?_ ?_))
  · intro hc hl
    have := hl (.int .u32 (tag : Int))
    rw [Maps.has_put_same ⟨_, rfl⟩ (by simp [WideAt.IsKeyLit])] at this
    cases this
  · intro x c kl y w1 cnt1 hkey hlk hv hat hrg1 hlt hg1 hs1 hen
    have hkl := has_one hlk
    obtain ⟨x', hx, hx2, -⟩ := Maps.keyOf_int_inv Tryz.underlying26 hkey
    have hxt : x = (tag : Int) := by
      rw [hkl] at hx2
      injection hx with _ a1
      injection hx2 with _ a2
      omega
    subst hkl
    subst hxt
    clear hx hx2
    have hT1 := (hT.kept hg0 (by simp)).kept hg1 (by simp; omega)
    have hK1 : Hid (Kept (fun k => k = TM) w w1) := ((Kept.refl _ w).step (Kept.ofGrown hg0) (by simp)).step (Kept.ofGrown hg1) (by simp; omega)
    go_wp2_with (first
      | (at_lookup; refine wpList_lookup_own_int _ rfl _ _ 218 rfl 26 3 .i64 keyedU Tryz.underlying218 Tryz.underlying3 (zeroInt _) TM 0 _ rfl hT1 _ _ rfl hkey ?_; intro n hn hwn; have hn0 : n = 0 := (by simp only [DataW.atKey, List.find?_nil] at hn; injection hn with h1; injection h1 with _ h2; exact h2.symm); subst hn0)
      | (at_mapUpdate; refine wpList_mapUpdate_own _ rfl _ _ _ 218 rfl 26 3 keyedU Tryz.underlying218 _ TM 0 _ rfl hT1 (by decide) _ _ _ rfl rfl hkey _ [] (plainElem_int Tryz.underlying3 (by decide)) ?_; intro w2 hT2 hg2))
    have hrg2 := hrg1.kept hg2 (by simp; omega) (by simp; omega)
    have hK2 : Hid (Kept (fun k => k = TM) w w2) := hK1.out.step (Kept.ofGrown hg2) (by simp; omega)
    have hD : Hid (w2.ownsMap Tryz.prog 26 (plainElem (H := Unit) Tryz.prog 3) TM 1 ((DataW.map []).put (.int .u32 (tag : Int)) (.lit (.int .i64 1)))) := hT2
    rw [rounds_succ]
    go_frame
    go_wp2_with (first | (at_next; refine wpList_next_ranges _ rfl _ rfl 26 keyedU _ (fun x : Int => .int .u32 x) (fun _ : Unit => .agg #[]) (fun key kl h => by obtain ⟨x, h1, _⟩ := Maps.keyOf_int_inv Tryz.underlying26 h; exact ⟨x, h1⟩) (fun v y h => ⟨(), (unitElem_inv h).1⟩) M w.heap.size 1 _ _ _ rfl hrg2 ?_ ?_))
    · intro _ _
      go_wp2
      go_end0
      exact ⟨rfl, hD.out, hK2.out⟩
    · intro x kl3 a3 b3 w3 cnt3 hkey3 hlk3 hns
      exfalso
      have := has_one hlk3
      subst this
      rw [WideAt.sameKey_self (by simp [WideAt.IsKeyLit])] at hns
      cases hns

end Go.Proofs.YtcfngdnmpogaoaaGreat

/-
  Maps of tags: their size; the tags of events; how many panes have each tag.
-/
namespace Go.Proofs.YtcfngdnmpogaoaaGreat
open Go.RowKit Go.MuLone Go.Maps

theorem len_rising (es : List (Lit × DataW Unit)) : ∀ (a : Int), es.Pairwise (fun p q => p.1.before q.1 = true) → (∀ p ∈ es, ∃ x : Int, p.1 = .int .u32 x ∧ a ≤ x ∧ x < 4294967296) → (es.length : Int) ≤ max 0 (4294967296 - a) := by
  induction es with
  | nil => intro a _ _; simp; omega
  | cons p es ih =>
    intro a hp hm
    obtain ⟨x, hx, h1, h2⟩ := hm p (by simp)
    obtain ⟨q1, q2⟩ := List.pairwise_cons.1 hp
    have := ih (x + 1) q2 (fun q hq => by
      obtain ⟨y, hy, h3, h4⟩ := hm q (by simp [hq])
      have := q1 q hq
      rw [hx, hy] at this
      exact ⟨y, hy, by simp [Lit.before] at this; omega, h4⟩)
    simp only [List.length_cons]
    omega

theorem ownsMap_keys {R : Value → Option (DataW Unit × List MemPlace)} {w : World} {b n : Nat} {D : DataW Unit} (h : w.ownsMap Tryz.prog 26 R b n D) : ∃ es, D = .map es ∧ es.Pairwise (fun p q => p.1.before q.1 = true) ∧ ∀ p ∈ es, ∃ x : Int, p.1 = .int .u32 x ∧ 0 ≤ x ∧ x < 4294967296 := by
  obtain ⟨es, clock, _, F, _, rfl⟩ := h
  refine ⟨_, rfl, Maps.sorted_sorted keyedU.one _ (Maps.fit_keys F) (Maps.fit_apart keyedU F), fun p hp => ?_⟩
  obtain ⟨x, hx, rfl⟩ := List.mem_map.1 (mem_sorted.1 hp)
  obtain ⟨y, hy⟩ := F.reads x hx
  rw [WideElems.rg_of hy]
  obtain ⟨z, _, h2, h3⟩ := Maps.keyOf_int_inv Tryz.underlying26 (WideElems.rd_key hy)
  refine ⟨z, h2, ?_⟩
  have := h3
  simp [Lit.wf, IntKind.min, IntKind.max, IntKind.signed, IntKind.bits] at this
  omega

/-- A map of tags is no longer than there are tags. -/
theorem ownsMap_tight {R : Value → Option (DataW Unit × List MemPlace)} {w : World} {b n : Nat} {D : DataW Unit} (h : w.ownsMap Tryz.prog 26 R b n D) : ∃ m, m ≤ 4294967296 ∧ w.ownsMap Tryz.prog 26 R b m D ∧ Maps.size D = m := by
  obtain ⟨L, hL, hp, hk⟩ := ownsMap_keys h
  have hl := len_rising L 0 hp hk
  obtain ⟨es, clock, h1, F, h3, h4⟩ := h
  rw [hL] at h4
  have : L.length = es.size := by
    injection h4 with h4
    rw [h4, length_sorted]; simp
  refine ⟨es.size, by omega, ⟨es, clock, h1, F, Nat.le_refl _, by rw [hL]; exact h4⟩, ?_⟩
  rw [hL]; exact this

/-- The tags of events, as a map's datum. -/
def tagsD (es : List Ev) : DataW Unit := es.foldl (fun D e => D.put (.int .u32 (e.tag : Int)) (.agg [])) (.map [])
theorem tagsD_snoc (es : List Ev) (e : Ev) : tagsD (es ++ [e]) = (tagsD es).put (.int .u32 (e.tag : Int)) (.agg []) := by unfold tagsD; rw [List.foldl_append]; rfl
theorem tagsD_isMap (es : List Ev) : Maps.IsMap (tagsD es) := by
  unfold tagsD
  have : ∀ (es : List Ev) (D : DataW Unit), Maps.IsMap D → Maps.IsMap (es.foldl (fun D e => D.put (.int .u32 (e.tag : Int)) (.agg [])) D) := by
    intro es
    induction es with
    | nil => intro D h; exact h
    | cons e es ih => intro D h; exact ih _ (by obtain ⟨l, rfl⟩ := h; exact ⟨_, rfl⟩)
  exact this es _ ⟨_, rfl⟩
def hasTag (es : List Ev) (x : Int) : Bool := es.any (fun e => decide ((e.tag : Int) = x))
theorem has_tagsD (es : List Ev) (x : Int) : Maps.has (tagsD es) (.int .u32 x) = hasTag es x := by
  have : ∀ (n : Nat) (es : List Ev), es.length = n → Maps.has (tagsD es) (.int .u32 x) = hasTag es x := by
    intro n
    induction n with
    | zero => intro es h; rw [List.eq_nil_of_length_eq_zero h]; rfl
    | succ n ih =>
      intro es h
      have hne : es ≠ [] := by intro e; subst e; simp at h
      have hd := List.dropLast_concat_getLast hne
      have hi := ih es.dropLast (by simp [h])
      rw [← hd, tagsD_snoc]
      unfold hasTag at hi ⊢
      rw [List.any_append, ← hi]
      by_cases hx : x = ((es.getLast hne).tag : Int)
      · rw [hx, Maps.has_put_same (tagsD_isMap _) (by simp [WideAt.IsKeyLit])]; simp
      · rw [Maps.has_put_other (by simp; exact hx)]
        have : decide (((es.getLast hne).tag : Int) = x) = false := by simp; omega
        simp [this]
  exact this _ es rfl

/-- How many panes have a tag. -/
def tagN (ps : List Pane) (x : Int) : Nat := (ps.filter (fun p => hasTag p.evs x)).length
theorem tagN_nil (x : Int) : tagN [] x = 0 := rfl
theorem tagN_cons (p : Pane) (ps : List Pane) (x : Int) : tagN (p :: ps) x = (if hasTag p.evs x then 1 else 0) + tagN ps x := by
  unfold tagN; rw [List.filter_cons]; split <;> simp <;> omega
theorem tagN_append (a b : List Pane) (x : Int) : tagN (a ++ b) x = tagN a x + tagN b x := by
  unfold tagN; rw [List.filter_append, List.length_append]

/-- A map of how many have each tag. -/
def TagsC (D : DataW Unit) (f : Int → Nat) : Prop := (∀ x : Int, Maps.has D (.int .u32 x) = decide (0 < f x)) ∧ ∀ x z, 0 < f x → D.atKey (.int .u32 x) z = .lit (.int .i64 (f x : Int))
theorem TagsC.congr {D : DataW Unit} {f g : Int → Nat} (h : TagsC D f) (hf : ∀ x, f x = g x) : TagsC D g := by
  have : f = g := funext hf
  rw [← this]; exact h
theorem TagsC.empty : TagsC (.map []) (fun _ => 0) := ⟨fun _ => rfl, fun _ _ h => absurd h (Nat.lt_irrefl 0)⟩
theorem atKey_none {D : DataW Unit} (hm : Maps.IsMap D) {k : Lit} (h : Maps.has D k = false) (z : DataW Unit) : D.atKey k z = z := by
  obtain ⟨l, rfl⟩ := hm
  simp only [Maps.has, List.any_eq_false] at h
  simp only [DataW.atKey]
  have : l.find? (fun p => p.1.sameKey k) = none := List.find?_eq_none.2 (fun p hp => h p hp)
  rw [this]
theorem TagsC.at {D : DataW Unit} {f : Int → Nat} (h : TagsC D f) (hm : Maps.IsMap D) (x : Int) : D.atKey (.int .u32 x) (.lit (.int .i64 0)) = .lit (.int .i64 (f x : Int)) := by
  by_cases hx : 0 < f x
  · exact h.2 x _ hx
  · have h0 : f x = 0 := by omega
    rw [atKey_none hm (by rw [h.1, h0]; rfl), h0]; rfl
theorem TagsC.put {D : DataW Unit} {f : Int → Nat} (h : TagsC D f) (hm : Maps.IsMap D) (x : Int) (n : Nat) (hn : 0 < n) : TagsC (D.put (.int .u32 x) (.lit (.int .i64 (n : Int)))) (fun y => if y = x then n else f y) := by
  refine ⟨fun y => ?_, fun y z hy => ?_⟩
  · by_cases hy : y = x
    · subst hy; rw [Maps.has_put_same hm (by simp [WideAt.IsKeyLit])]; simp [hn]
    · rw [Maps.has_put_other (by simp; exact hy), h.1]; simp only [if_neg hy]
  · by_cases hyx : y = x
    · subst hyx; rw [Maps.atKey_put_same hm (by simp [WideAt.IsKeyLit])]; simp
    · simp only [if_neg hyx] at hy ⊢
      rw [Maps.atKey_put_other (by simp; exact hyx)]
      exact h.2 y z hy
end Go.Proofs.YtcfngdnmpogaoaaGreat
