import Derived.Test.YtcfngdnmpogaoaaGreatBytesT11

/-
  The flow of 'known': the event at 5 is fed, then the mark 10.
-/
namespace Go.Proofs.YtcfngdnmpogaoaaGreat
open Go.RowKit Go.MuLone

/-- The flow of 'known', state by state. -/
def kn (s0 : SSrc) (lk lt : Int) (li : Bool) (going ended : Value) (taken marks : Int) : SCells :=
  ⟨lk, 10, 10, 0, 1, [s0, SSrc.zero, SSrc.zero, SSrc.zero, SSrc.zero, SSrc.zero, SSrc.zero, SSrc.zero], lt, li, going, ended, ⟨taken, 0, 0, 0, marks, 0⟩⟩

theorem kn_fits (t lk lt : Int) (i : Bool) (li : Bool) (going ended : Value) (taken marks : Int) (h : 0 ≤ t ∧ t ≤ 100) : (kn ⟨true, false, .slice none 0 0, t, i⟩ lk lt li going ended taken marks).Fits := by
  refine ⟨fun s hs => ?_, by show (0 : Int) ≤ 0 ∧ (0 : Int) ≤ 1099511627776; omega⟩
  simp only [kn, List.mem_cons, List.not_mem_nil, or_false] at hs
  rcases hs with rfl | rfl | rfl | rfl | rfl | rfl | rfl | rfl <;> simp [SSrc.zero] <;> omega

theorem kn_first (gv : Value) : (((kn srcO 1 0 false (.slice none 0 0) (.slice none 0 0) 0 0).addTaken.setGoing gv).setSrc 0 (srcO.raised 5)).moved = kn (srcM 5) 1 5 true gv (.slice none 0 0) 1 0 := by
  have e : wrap64 (0 + 1) = 1 := by unfold wrap64; omega
  have e1 : ((kn srcO 1 0 false (.slice none 0 0) (.slice none 0 0) 0 0).addTaken.setGoing gv).setSrc 0 (srcO.raised 5) = kn (srcM 5) 1 0 false gv (.slice none 0 0) 1 0 := by
    rw [srcO_raised]
    show kn (srcM 5) 1 0 false gv (.slice none 0 0) (wrap64 (0 + 1)) 0 = _
    rw [e]
  rw [e1]
  rfl
theorem kn_mark (gv : Value) : ((kn (srcM 5) 1 5 true gv (.slice none 0 0) 1 0).addMark.setSrc 0 ((srcM 5).raised (clampT 10))).moved = kn (srcM 10) 1 10 true gv (.slice none 0 0) 1 1 := by
  have e : wrap64 (0 + 1) = 1 := by unfold wrap64; omega
  have e1 : (kn (srcM 5) 1 5 true gv (.slice none 0 0) 1 0).addMark.setSrc 0 ((srcM 5).raised (clampT 10)) = kn (srcM 10) 1 5 true gv (.slice none 0 0) 1 1 := by
    rw [clampT_id 10 (by omega) (by omega)]
    show kn ((srcM 5).raised 10) 1 5 true gv (.slice none 0 0) 1 (wrap64 (0 + 1)) = _
    rw [e, SSrc.raised, if_pos (.inr (by decide))]
  rw [e1]
  rfl

/-- The event of 'known'. -/
abbrev keyK : ByteArray := ⟨#[107]⟩
abbrev DK : DataW Unit := (DataW.map []).put (.int .u32 ((9 : Nat) : Int)) (.agg [])
theorem winK : winFirst 10 10 5 = 0 ∧ winLast 10 5 = 0 := by decide
theorem numK : wrap64 (0 + 1) = 1 ∧ wrap64 (0 + 3) = 3 ∧ minV 9223372036854775807 3 = 3 ∧ maxV (-9223372036854775808) 3 = 3 := by
  refine ⟨by unfold wrap64; omega, by unfold wrap64; omega, by decide, by decide⟩

/-- The one run of 'known'. -/
abbrev OneK (w : World) (g : Nat) (r : SCells) (gv : Value) (R P M b : Nat) (pv : Value) : Prop := OneF w g r gv R P M b pv keyK 0 0 1 3 3 3 1 DK

theorem do_known1 (g : Nat) (w : World) (h : SF w g (kn srcO 1 0 false (.slice none 0 0) (.slice none 0 0) 0 0)) :
    Calls Tryz.prog 72 #[.pointer (some ⟨g, 0, none⟩), .pointer (some ⟨g, 6 + 0 * 5, none⟩), itemV 1 keyK 5 3 ((9 : Nat) : Int)] w fun e w' => e = .returned (.tuple #[]) ∧ (∃ R P M b pv gv, OneK w' g (kn (srcM 5) 1 5 true gv (.slice none 0 0) 1 0) gv R P M b pv ∧ NewAt w.heap.size R b pv gv) ∧ Kept (fun k => k = g) w w' := by
  refine do_event_of g _ keyK 5 3 9 w (fun W => (∃ R P M b pv gv, OneK W g (((kn srcO 1 0 false (.slice none 0 0) (.slice none 0 0) 0 0).addTaken.setGoing gv).setSrc 0 (srcO.raised 5)) gv R P M b pv ∧ NewAt w.heap.size R b pv gv) ∧ Kept (fun k => k = g) w W) _ (fun W hb => ?_) (fun W hW => ?_)
  · refine (doEvent_first g 0 _ srcO keyK 5 3 9 W (h.below hb h.lt) rfl rfl rfl (by decide) (by decide) (by decide) (by decide) (by decide) (by decide) (by decide)).mono ?_
    rintro e w' ⟨rfl, R, P, M, b, pv, gv, h1, h2, hnew⟩
    refine ⟨rfl, ⟨R, P, M, b, pv, gv, ?_, hnew.mono hb.size⟩, (Kept.ofBelow hb _).trans h2⟩
    have hw : winFirst 10 10 5 = 0 := winK.1
    have hl : winLast 10 5 = 0 := winK.2
    obtain ⟨n1, n2, n3, n4⟩ := numK
    have e1 : winFirst (kn srcO 1 0 false (.slice none 0 0) (.slice none 0 0) 0 0).size (kn srcO 1 0 false (.slice none 0 0) (.slice none 0 0) 0 0).slide 5 = 0 := hw
    have e2 : winLast (kn srcO 1 0 false (.slice none 0 0) (.slice none 0 0) 0 0).slide 5 = 0 := hl
    rw [e1, e2, n1, n2, n3, n4] at h1
    exact h1
  · obtain ⟨⟨R, P, M, b, pv, gv, hO, hnew⟩, hk⟩ := hW
    have hm := kn_first gv
    have hl : leastF (((kn srcO 1 0 false (.slice none 0 0) (.slice none 0 0) 0 0).addTaken.setGoing gv).setSrc 0 (srcO.raised 5)).src = (5, true) := by rw [srcO_raised]; rfl
    refine moveLine_of g _ W hO.sf (fun k => k = g) rfl (fun w' => (∃ R P M b pv gv, OneK w' g (kn (srcM 5) 1 5 true gv (.slice none 0 0) 1 0) gv R P M b pv ∧ NewAt w.heap.size R b pv gv) ∧ Kept (fun k => k = g) w w') (fun w' _ _ hf => by rw [hl] at hf; cases hf) (by rw [hl]; show IntKind.i64.wrap ((5 : Int) - 0) = 5 - 0; decide) (fun W2 h2 k2 _ => ?_)
    rw [hm] at h2
    refine (endRuns_no g (kn (srcM 5) 1 5 true gv (.slice none 0 0) 1 0) gv R P M b pv keyK 0 0 1 3 3 3 1 DK W2 (hO.kept k2 h2) rfl (by show IntKind.i64.wrap ((0 : Int) + 10) = 0 + 10; decide) (by show decide ((0 : Int) + 10 ≤ 5) = false; decide)).mono ?_
    rintro e w' ⟨rfl, h3, k3⟩
    exact ⟨rfl, ⟨R, P, M, b, pv, gv, h3, hnew⟩, (hk.trans k2).trans k3⟩

theorem do_known2 (g : Nat) (w : World) (R P M b : Nat) (pv gv : Value) (key : ByteArray) (tag v : Int) (h : OneK w g (kn (srcM 5) 1 5 true gv (.slice none 0 0) 1 0) gv R P M b pv) :
    Calls Tryz.prog 72 #[.pointer (some ⟨g, 0, none⟩), .pointer (some ⟨g, 6 + 0 * 5, none⟩), itemV 2 key 10 v tag] w fun e w' => e = .returned (.tuple #[]) ∧ (∃ ev gv', OneK w' g (kn (srcM 10) 1 10 true gv' ev 1 1) ev R P M b pv ∧ Row w' 150 1 gv' []) ∧ Kept (fun k => k = g ∨ gv.ownBlock = some k) w w' := by
  have hl : leastF ((kn (srcM 5) 1 5 true gv (.slice none 0 0) 1 0).addMark.setSrc 0 ((srcM 5).raised (clampT 10))).src = (10, true) := by
    have := congrArg SCells.src (kn_mark gv)
    rw [SCells.moved_src] at this
    rw [this]; rfl
  have hlate : ((kn (srcM 5) 1 5 true gv (.slice none 0 0) 1 0).addMark.setSrc 0 ((srcM 5).raised (clampT 10))).late = 0 := rfl
  refine do_mark_of g 0 _ (srcM 5) key 10 v tag w h.sf rfl _ (fun W hs hk => ?_)
  refine moveLine_of g _ W hs (fun k => k = g) rfl (fun w' => (∃ ev gv', OneK w' g (kn (srcM 10) 1 10 true gv' ev 1 1) ev R P M b pv ∧ Row w' 150 1 gv' []) ∧ Kept (fun k => k = g ∨ gv.ownBlock = some k) w w') (fun w' _ _ hf => by rw [hl] at hf; cases hf) (by rw [hl, hlate]; decide) (fun W2 h2 k2 _ => ?_)
  rw [kn_mark] at h2
  have hO := (h.kept (hk.trans k2) h2)
  refine (endRuns_yes g (kn (srcM 10) 1 10 true gv (.slice none 0 0) 1 1) gv R P M b pv keyK 0 0 1 3 3 3 1 DK W2 hO rfl rfl (by show IntKind.i64.wrap ((0 : Int) + 10) = 0 + 10; decide) (by show decide ((0 : Int) + 10 ≤ 10) = true; decide)).mono ?_
  rintro e w' ⟨rfl, ev, gv', h3, h4, k3⟩
  exact ⟨rfl, ⟨ev, gv', h3, h4⟩, ((hk.trans k2).mono (fun k _ h => .inl h)).trans k3⟩

theorem eventK : isItemB 1 keyK 3 ((9 : Nat) : Int) = true := by decide

theorem feed_known1 (g : Nat) (bv : Value) (w : World) (h : SF w g (kn srcO 0 0 false (.slice none 0 0) (.slice none 0 0) 0 0)) (hrow : Row w 5 1 bv ((frameBytes 1 keyK 5 3 9).map byteV)) :
    Calls Tryz.prog 20 #[.pointer (some ⟨g, 0, none⟩), .int .i64 ((0 : Nat) : Int), bv] w fun e w' => e = .returned (.int .i64 0) ∧ (∃ R P M b pv gv, OneK w' g (kn (srcM 5) 0 5 true gv (.slice none 0 0) 1 0) gv R P M b pv ∧ NewAt w.heap.size R b pv gv) ∧ Kept (fun k => k = g) w w' := by
  obtain ⟨hl1, hl2⟩ := frame_long (kind := 1) (key := keyK) (time := 5) (value := 3) (tag := 9) eventK (by decide) (by decide) (by decide) (by decide) (by decide) []
  rw [List.append_nil] at hl1 hl2
  obtain ⟨hv, -, -⟩ := unf_frame (kind := 1) (key := keyK) (time := 5) (value := 3) (tag := 9) eventK (by decide) (by decide) (by decide) (by decide) (by decide) []
  rw [List.append_nil] at hv
  have hd : (frameBytes 1 keyK 5 3 9).drop (((frameBytes 1 keyK 5 3 9).getD 0 0).toNat + 3) = [] := by
    have h1 := frame_head (time := 5) eventK []
    rw [List.append_nil] at h1
    have h2 := frame_len (time := 5) eventK
    rw [List.drop_of_length_le]
    rw [h1, h2]
    exact Nat.le_refl _
  have hlen : (frameBytes 1 keyK 5 3 9).length ≤ 33 := by
    have h2 := frame_len (time := 5) eventK
    have h3 := itemBody_len (time := 5) eventK
    omega
  have hlk : (kn srcO 0 0 false (.slice none 0 0) (.slice none 0 0) 0 0).lock 1 = kn srcO 1 0 false (.slice none 0 0) (.slice none 0 0) 0 0 := rfl
  refine (feed_of g 0 _ srcO bv w h rfl rfl rfl (fun W => (∃ R P M b pv gv, OneK W g (kn (srcM 5) 1 5 true gv (.slice none 0 0) 1 0) gv R P M b pv ∧ NewAt w.heap.size R b pv gv) ∧ Kept (fun k => k = g) w W) (fun W hW => ?_) (fun W1 h1 k1 => ?_)).mono ?_
  · obtain ⟨⟨R, P, M, b, pv, gv, hO, _⟩, _⟩ := hW
    exact ⟨hO.sf.lockAt rfl, hO.sf.frozen _⟩
  · rw [hlk] at h1
    refine read_of g (6 + 0 * 5) (.slice none 0 0) bv [] (frameBytes 1 keyK 5 3 9) W1 _ (fun W L => Kept (fun k => k = g) w W ∧ ((L = frameBytes 1 keyK 5 3 9 ∧ SF W g (kn srcO 1 0 false (.slice none 0 0) (.slice none 0 0) 0 0)) ∨ (L = [] ∧ ∃ R P M b pv gv, OneK W g (kn (srcM 5) 1 5 true gv (.slice none 0 0) 1 0) gv R P M b pv ∧ NewAt w.heap.size R b pv gv)))
      (h1.cell (SCells.srcAt _ 0 1 srcO rfl (by omega))) (h1.cell (SCells.srcAt _ 0 2 srcO rfl (by omega))) (Row.nil _ _ _) (hrow.bytes8 (k1.bytes8 h)) (by simp; omega)
      ⟨k1, .inl ⟨by simp, h1⟩⟩ ?_ ?_ ?_ ?_
    · rintro W W' L ⟨hk, hc⟩ hbl
      refine ⟨hk.trans (Kept.ofBelow hbl _), ?_⟩
      rcases hc with ⟨e, hsf⟩ | ⟨e, R, P, M, b, pv, gv, hO, hnew⟩
      · exact .inl ⟨e, hsf.below hbl hsf.lt⟩
      · exact .inr ⟨e, R, P, M, b, pv, gv, hO.kept (Kept.ofBelow hbl _) (hO.sf.below hbl hO.sf.lt), hnew⟩
    · rintro W L ⟨hk, hc⟩ hsh hok _
      rcases hc with ⟨rfl, hsf⟩ | ⟨rfl, _⟩
      · rw [hv]
        refine (do_known1 g W hsf).mono ?_
        rintro e W' ⟨rfl, ⟨R, P, M, b, pv, gv, h2, hnew⟩, k2⟩
        exact ⟨rfl, ⟨hk.trans k2, .inr ⟨hd, R, P, M, b, pv, gv, h2, hnew.mono hk.size⟩⟩, k2.bytes8 hsf⟩
      · simp [unfShort] at hsh
    · rintro W L ⟨hk, hc⟩ hsh hok
      rcases hc with ⟨rfl, hsf⟩ | ⟨rfl, _⟩
      · rw [hl2] at hok; cases hok
      · simp [unfShort] at hsh
    · rintro W L v ⟨hk, hc⟩ hsh hr hnil
      rcases hc with ⟨rfl, hsf⟩ | ⟨rfl, R, P, M, b, pv, gv, hO, hnew⟩
      · rw [hl1] at hsh; cases hsh
      · obtain rfl := hnil rfl
        have k3 : Kept (fun k => k = g) W (W.setCell ⟨g, 6 + 0 * 5 + 2, none⟩ (.slice none 0 0)) := (Kept.refl _ W).setCell ⟨g, _, none⟩ _ (fun _ => rfl)
        have s3 := hO.sf.putSrc 0 2 (srcM 5) (srcM 5) (.slice none 0 0) rfl (by omega) rfl
        rw [setSrc_self _ _ _ (show (kn (srcM 5) 1 5 true gv (.slice none 0 0) 1 0).src[0]? = some (srcM 5) from rfl)] at s3
        exact ⟨⟨_, hO.sf.cell (SCells.srcAt _ 0 2 (srcM 5) rfl (by omega))⟩, hO.sf.frozen _, ⟨R, P, M, b, pv, gv, hO.kept k3 s3, hnew⟩, hk.trans k3⟩
  · rintro e w' ⟨rfl, W, ⟨⟨R, P, M, b, pv, gv, hO, hnew⟩, h2⟩, rfl⟩
    have k3 : Kept (fun k => k = g) W (W.setCell ⟨g, 0, none⟩ (.int .i32 0)) := (Kept.refl _ W).setCell ⟨g, _, none⟩ _ (fun _ => rfl)
    exact ⟨rfl, ⟨R, P, M, b, pv, gv, hO.kept k3 (hO.sf.putLock 0), hnew⟩, h2.trans k3⟩
end Go.Proofs.YtcfngdnmpogaoaaGreat

/-
  The mark of 'known' fed: the one run ends.
-/
namespace Go.Proofs.YtcfngdnmpogaoaaGreat
open Go.RowKit Go.MuLone

theorem feed_known2 (g : Nat) (bv : Value) (w : World) (R P M b : Nat) (pv gv : Value) (h : OneK w g (kn (srcM 5) 0 5 true gv (.slice none 0 0) 1 0) gv R P M b pv) (hrow : Row w 5 1 bv ((markB 10).map byteV)) :
    Calls Tryz.prog 20 #[.pointer (some ⟨g, 0, none⟩), .int .i64 ((0 : Nat) : Int), bv] w fun e w' => e = .returned (.int .i64 0) ∧ (∃ ev gv', OneK w' g (kn (srcM 10) 0 10 true gv' ev 1 1) ev R P M b pv ∧ Row w' 150 1 gv' []) ∧ Kept (fun k => k = g ∨ gv.ownBlock = some k) w w' := by
  obtain ⟨hl1, hl2⟩ := frame_long (kind := 2) (key := ⟨#[]⟩) (time := 10) (value := 0) (tag := 0) item_mark2 (by decide) (by decide) (by decide) (by decide) (by decide) []
  rw [List.append_nil] at hl1 hl2
  obtain ⟨hv, -, -⟩ := unf_frame (kind := 2) (key := ⟨#[]⟩) (time := 10) (value := 0) (tag := 0) item_mark2 (by decide) (by decide) (by decide) (by decide) (by decide) []
  rw [List.append_nil] at hv
  have hd : (markB 10).drop (((markB 10).getD 0 0).toNat + 3) = [] := by
    have h1 := frame_head (time := 10) item_mark2 []
    rw [List.append_nil] at h1
    have h2 := frame_len (time := 10) item_mark2
    rw [List.drop_of_length_le]
    show (frameBytes 2 ⟨#[]⟩ 10 0 0).length ≤ ((frameBytes 2 ⟨#[]⟩ 10 0 0).getD 0 0).toNat + 3
    rw [h1, h2]
    exact Nat.le_refl _
  have hlen : (markB 10).length ≤ 33 := by
    have h2 := frame_len (time := 10) item_mark2
    have h3 := itemBody_len (time := 10) item_mark2
    show (frameBytes 2 ⟨#[]⟩ 10 0 0).length ≤ 33
    omega
  have hlk : (kn (srcM 5) 0 5 true gv (.slice none 0 0) 1 0).lock 1 = kn (srcM 5) 1 5 true gv (.slice none 0 0) 1 0 := rfl
  refine (feed_of g 0 _ (srcM 5) bv w h.sf rfl rfl rfl (fun W => (∃ ev gv', OneK W g (kn (srcM 10) 1 10 true gv' ev 1 1) ev R P M b pv ∧ Row W 150 1 gv' []) ∧ Kept (fun k => k = g ∨ gv.ownBlock = some k) w W) (fun W hW => ?_) (fun W1 h1 k1 => ?_)).mono ?_
  · obtain ⟨⟨ev, gv', hO, _⟩, _⟩ := hW
    exact ⟨hO.sf.lockAt rfl, hO.sf.frozen _⟩
  · rw [hlk] at h1
    refine read_of g (6 + 0 * 5) (.slice none 0 0) bv [] (markB 10) W1 _ (fun W L => Kept (fun k => k = g ∨ gv.ownBlock = some k) w W ∧ ((L = markB 10 ∧ OneK W g (kn (srcM 5) 1 5 true gv (.slice none 0 0) 1 0) gv R P M b pv) ∨ (L = [] ∧ ∃ ev gv', OneK W g (kn (srcM 10) 1 10 true gv' ev 1 1) ev R P M b pv ∧ Row W 150 1 gv' [])))
      (h1.cell (SCells.srcAt _ 0 1 (srcM 5) rfl (by omega))) (h1.cell (SCells.srcAt _ 0 2 (srcM 5) rfl (by omega))) (Row.nil _ _ _) (hrow.bytes8 (k1.bytes8 h.sf)) (by simp; omega)
      ⟨k1.mono (fun k _ e => .inl e), .inl ⟨by simp, h.kept k1 h1⟩⟩ ?_ ?_ ?_ ?_
    · rintro W W' L ⟨hk, hc⟩ hbl
      refine ⟨hk.trans (Kept.ofBelow hbl _), ?_⟩
      rcases hc with ⟨e, hO⟩ | ⟨e, ev, gv', hO, hr⟩
      · exact .inl ⟨e, hO.kept (Kept.ofBelow hbl _) (hO.sf.below hbl hO.sf.lt)⟩
      · exact .inr ⟨e, ev, gv', hO.kept (Kept.ofBelow hbl _) (hO.sf.below hbl hO.sf.lt), hr.below hbl (fun k hk => (hr.blk_lt hk).1)⟩
    · rintro W L ⟨hk, hc⟩ hsh hok _
      rcases hc with ⟨rfl, hO⟩ | ⟨rfl, _⟩
      · rw [hv]
        refine (do_known2 g W R P M b pv gv ⟨#[]⟩ ((0 : Nat) : Int) 0 hO).mono ?_
        rintro e W' ⟨rfl, h2, k2⟩
        refine ⟨rfl, ⟨hk.trans k2, .inr ⟨hd, h2⟩⟩, fun k c f hkk => ?_⟩
        rw [k2.block k (blkLt hkk) ?_]
        · exact hkk
        · rintro (rfl | e)
          · rw [hO.sf.blk] at hkk
            simp only [Option.some.injEq, Obj.cells.injEq] at hkk
            exact absurd hkk.2.1 (by decide)
          · obtain ⟨_, c', hc'⟩ := hO.row.blk_lt e
            rw [hc'] at hkk
            simp only [Option.some.injEq, Obj.cells.injEq] at hkk
            exact absurd hkk.2.1 (by decide)
      · simp [unfShort] at hsh
    · rintro W L ⟨hk, hc⟩ hsh hok
      rcases hc with ⟨rfl, hsf⟩ | ⟨rfl, _⟩
      · rw [hl2] at hok; cases hok
      · simp [unfShort] at hsh
    · rintro W L v ⟨hk, hc⟩ hsh hr hnil
      rcases hc with ⟨rfl, hsf⟩ | ⟨rfl, ev, gv', hO, hr'⟩
      · rw [hl1] at hsh; cases hsh
      · obtain rfl := hnil rfl
        have k3 : Kept (fun k => k = g) W (W.setCell ⟨g, 6 + 0 * 5 + 2, none⟩ (.slice none 0 0)) := (Kept.refl _ W).setCell ⟨g, _, none⟩ _ (fun _ => rfl)
        have s3 := hO.sf.putSrc 0 2 (srcM 10) (srcM 10) (.slice none 0 0) rfl (by omega) rfl
        rw [setSrc_self _ _ _ (show (kn (srcM 10) 1 10 true gv' ev 1 1).src[0]? = some (srcM 10) from rfl)] at s3
        exact ⟨⟨_, hO.sf.cell (SCells.srcAt _ 0 2 (srcM 10) rfl (by omega))⟩, hO.sf.frozen _, ⟨ev, gv', hO.kept k3 s3, hr'.congr (fun k hq => k3.block k (hr'.blk_lt hq).1 (fun e => by subst e; exact hr'.ne_block hO.sf.blk (by decide) hq))⟩, hk.trans (k3.mono (fun k _ e => .inl e))⟩
  · rintro e w' ⟨rfl, W, ⟨⟨ev, gv', hO, hr'⟩, h2⟩, rfl⟩
    have k3 : Kept (fun k => k = g) W (W.setCell ⟨g, 0, none⟩ (.int .i32 0)) := (Kept.refl _ W).setCell ⟨g, _, none⟩ _ (fun _ => rfl)
    exact ⟨rfl, ⟨ev, gv', hO.kept k3 (hO.sf.putLock 0), hr'.congr (fun k hq => k3.block k (hr'.blk_lt hq).1 (fun e => by subst e; exact hr'.ne_block hO.sf.blk (by decide) hq))⟩, h2.trans (k3.mono (fun k _ e => .inl e))⟩
end Go.Proofs.YtcfngdnmpogaoaaGreat

/-
  The parts: the bounds' stacks.
-/
namespace Go.Proofs.YtcfngdnmpogaoaaGreat
open Go.RowKit Go.MuLone

theorem whole_nil (a : Option Addr) (c : Nat) (w : World) :
    Calls Tryz.prog 150 #[.slice a 0 c] w fun e w' => e = .returned (.agg #[.int .i64 9223372036854775807, .int .i64 (-9223372036854775808)]) ∧ Below w.heap.size w w' := by
  go_enter Tryz.func150, Tryz.ntmps150
  go_wp2_with fail
  refine (noValues_any _).mono ?_
  rintro e W ⟨rfl, hb⟩
  have h1 := blkBelow (heap_alloc_new w (.cells #[.int .i64 0, .int .i64 0] 204)) hb
  obtain ⟨x0, x1, xf, -⟩ := cells2At h1
  have hB : Hid (Below w.heap.size w W) := ((Below.refl _ w).alloc (Nat.le_refl _) _).trans (hb.mono (by simp))
  clear hb
  go_wp2
  have h2 := cells2Put (u := .int .i64 9223372036854775807) (v := .int .i64 (-9223372036854775808)) h1
  have hB2 := (hB.out.setCell (p := ⟨w.heap.size, 0, none⟩) (Nat.le_refl _) (.int .i64 9223372036854775807)).setCell (p := ⟨w.heap.size, 1, none⟩) (Nat.le_refl _) (.int .i64 (-9223372036854775808))
  clear x0 x1 xf
  generalize (W.setCell ⟨w.heap.size, 0, none⟩ (.int .i64 9223372036854775807)).setCell ⟨w.heap.size, 1, none⟩ (.int .i64 (-9223372036854775808)) = W2 at *
  obtain ⟨x0, x1, xf, -⟩ := cells2At h2
  exact bodyPost_ret (v := .agg #[.int .i64 9223372036854775807, .int .i64 (-9223372036854775808)]) (by simp [results, Tryz.results150, go_sem, x0, x1]) rfl ⟨rfl, hB2⟩

theorem whole_one (g o c : Nat) (a b : Int) (w : World) (h2 : w.cell? ⟨g, o + 2, none⟩ = some (.int .i64 a)) (h3 : w.cell? ⟨g, o + 3, none⟩ = some (.int .i64 b)) :
    Calls Tryz.prog 150 #[.slice (some ⟨g, o, none⟩) 1 c] w fun e w' => e = .returned (.agg #[.int .i64 a, .int .i64 b]) ∧ Below w.heap.size w w' := by
  have k2 : (w.alloc (.cells #[.int .i64 0, .int .i64 0] 204)).cell? ⟨g, o + 2, none⟩ = some (.int .i64 a) := (((Below.refl w.heap.size w).alloc (Nat.le_refl _) _).cell (World.block_lt_of_cell? w ⟨g, o + 2, none⟩ h2)).trans h2
  have k3 : (w.alloc (.cells #[.int .i64 0, .int .i64 0] 204)).cell? ⟨g, o + 3, none⟩ = some (.int .i64 b) := (((Below.refl w.heap.size w).alloc (Nat.le_refl _) _).cell (World.block_lt_of_cell? w ⟨g, o + 3, none⟩ h3)).trans h3
  go_enter Tryz.func150, Tryz.ntmps150
  go_wp2_with fail
  exact bodyPost_ret (v := .agg #[.int .i64 a, .int .i64 b]) (by simp [results, Tryz.results150, go_sem]) rfl ⟨rfl, (Below.refl _ w).alloc (Nat.le_refl _) _⟩

theorem enterWhole : ∀ (vs : Array Value) (w : World), (callFunc 150 vs).run Tryz.prog w = .ok (.enter 150 vs) w := enters_of Tryz.func150 (by kernel_rfl) rfl
theorem enterJoined : ∀ (vs : Array Value) (w : World), (callFunc 151 vs).run Tryz.prog w = .ok (.enter 151 vs) w := enters_of Tryz.func151 (by kernel_rfl) rfl
theorem infoLv : (Tryz.prog.info? 261).map (fun i => (i.zero, i.size, i.bytes)) = some (some (.agg #[.int .i64 0, .int .i64 0, .int .i64 0, .int .i64 0]), 4, 32) := by kernel_rfl

theorem row_new (w : World) (xs : List Value) (e : TypeId) : ∀ (j : Nat) (u : Value), xs[j]? = some u → (w.alloc (.cells xs.toArray e)).cell? ((⟨w.heap.size, 0, none⟩ : Addr).add j) = some u := by
  intro j u hu
  rw [Addr.add_lit, Nat.zero_add]
  exact blkCell (heap_alloc_new w _) (by simpa using hu)

end Go.Proofs.YtcfngdnmpogaoaaGreat

/-
  The parts: a stack's pop; the bounds' whole.
-/
namespace Go.Proofs.YtcfngdnmpogaoaaGreat
open Go.RowKit Go.MuLone

set_option maxRecDepth 20000 in
set_option maxHeartbeats 1600000 in
theorem pop_one (S so g o c : Nat) (cs : Array Value) (T : TypeId) (a b : Int) (w : World) (hS : w.heap[S]? = some (.cells cs T (0, 0))) (hs : cs[so]? = some (.slice (some ⟨g, o, none⟩) 1 c)) (hc : 1 ≤ c)
    (h0 : w.cell? ⟨g, o, none⟩ = some (.int .i64 a)) (h1 : w.cell? ⟨g, o + 1, none⟩ = some (.int .i64 b)) :
    Calls Tryz.prog 212 #[.pointer (some ⟨S, so, none⟩)] w fun e w' => e = .returned (.agg #[.int .i64 a, .int .i64 b]) ∧
      w'.heap[S]? = some (.cells (cs.setIfInBounds so (.slice (some ⟨g, o, none⟩) 0 c)) T (0, 0)) ∧ Kept (fun k => k = S) w w' := by
  have hSs := blkLt hS
  have hgs := World.block_lt_of_cell? w ⟨g, o, none⟩ h0
  have q0 : w.cell? ⟨S, so, none⟩ = some (.slice (some ⟨g, o, none⟩) 1 c) := blkCell hS hs
  go_enter Tryz.func212, Tryz.ntmps212
  go_upto_region 1 with fail
  have hr1 := heap_alloc_new w (.cells #[.int .i64 0, .int .i64 0] 204)
  have B1 : Below w.heap.size w (w.alloc (.cells #[.int .i64 0, .int .i64 0] 204)) := (Below.refl _ w).alloc (Nat.le_refl _) _
  have hS1 := blkBelow hS B1
  have k0 := (B1.cell hgs).trans h0
  have k1 := (B1.cell (p := ⟨g, o + 1, none⟩) hgs).trans h1
  have K1 : Hid (Kept (fun k => k = S) w (w.alloc (.cells #[.int .i64 0, .int .i64 0] 204))) := Kept.ofBelow B1 _
  have hRS : w.heap.size ≠ S := by omega
  generalize w.alloc (.cells #[.int .i64 0, .int .i64 0] 204) = W1 at *
  obtain ⟨R, HR⟩ : ∃ R, Hid (w.heap.size = R) := ⟨_, rfl⟩
  rw [HR.out] at hr1 hRS ⊢
  clear hS h0 h1 B1 q0
  have q1 : W1.cell? ⟨S, so, none⟩ = some (.slice (some ⟨g, o, none⟩) 1 c) := blkCell hS1 hs
  go_upto_region 3 with fail
  have hx2 := heap_alloc_new W1 (.cells #[.int .i64 a, .int .i64 b] 204)
  have hr2 := blkAlloc hr1 (.cells #[.int .i64 a, .int .i64 b] 204)
  have hS2 := blkAlloc hS1 (.cells #[.int .i64 a, .int .i64 b] 204)
  have K2 : Hid (Kept (fun k => k = S) w (W1.alloc (.cells #[.int .i64 a, .int .i64 b] 204))) := K1.out.alloc _
  have hXS : W1.heap.size ≠ S := by have := blkLt hS1; omega
  have hXR : W1.heap.size ≠ R := by have := blkLt hr1; omega
  generalize W1.alloc (.cells #[.int .i64 a, .int .i64 b] 204) = W2 at *
  generalize W1.heap.size = X at *
  clear q1 hS1 hr1 k0 k1 K1
  have q2 : W2.cell? ⟨S, so, none⟩ = some (.slice (some ⟨g, o, none⟩) 1 c) := blkCell hS2 hs
  have f2 := blkFrozen hS2 so
  go_upto_region 4 with fail
  have hx3 := blkOther hx2 S so (.slice (some ⟨g, o, none⟩) 0 c) hXS
  have hr3 := blkOther hr2 S so (.slice (some ⟨g, o, none⟩) 0 c) hRS
  have hS3 := blkPut hS2 so (.slice (some ⟨g, o, none⟩) 0 c)
  have K3 : Hid (Kept (fun k => k = S) w (W2.setCell ⟨S, so, none⟩ (.slice (some ⟨g, o, none⟩) 0 c))) := K2.out.setCell ⟨S, so, none⟩ _ (fun _ => rfl)
  clear q2 f2 K2 hx2 hr2 hS2
  generalize W2.setCell ⟨S, so, none⟩ (.slice (some ⟨g, o, none⟩) 0 c) = W3 at *
  obtain ⟨x0, x1, -, -⟩ := cells2At hx3
  obtain ⟨r0, r1, rf, -⟩ := cells2At hr3
  go_wp2
  have hr4 := cells2Put (u := .int .i64 a) (v := .int .i64 b) hr3
  have hS4 := blkOther (blkOther hS3 R 0 (.int .i64 a) hRS.symm) R 1 (.int .i64 b) hRS.symm
  have K4 := (K3.out.setCell ⟨R, 0, none⟩ (.int .i64 a) (by show R < w.heap.size → R = S; rw [HR.out]; intro h; omega)).setCell ⟨R, 1, none⟩ (.int .i64 b) (by show R < w.heap.size → R = S; rw [HR.out]; intro h; omega)
  clear x0 x1 r0 r1 rf
  generalize (W3.setCell ⟨R, 0, none⟩ (.int .i64 a)).setCell ⟨R, 1, none⟩ (.int .i64 b) = W4 at *
  obtain ⟨y0, y1, -, -⟩ := cells2At hr4
  exact bodyPost_ret (v := .agg #[.int .i64 a, .int .i64 b]) (by simp [results, Tryz.results212, go_sem, y0, y1]) rfl ⟨rfl, hS4, K4⟩
end Go.Proofs.YtcfngdnmpogaoaaGreat

/-
  The parts: the bounds' whole.
-/
namespace Go.Proofs.YtcfngdnmpogaoaaGreat
open Go.RowKit Go.MuLone

/-- A contract at arguments that are these. -/
theorem calls_fit {P : Program} {f : FuncId} {args : Array Value} {w : World} {R R' : Ending → World → Prop} (args' : Array Value) (h : args = args') (hc : Calls P f args' w R) (m : ∀ e w', R e w' → R' e w') : Calls P f args w R' := by
  subst h
  exact hc.mono m

set_option maxRecDepth 20000 in
set_option maxHeartbeats 3200000 in
theorem bounds_whole (Bd g o c : Nat) (a b : Int) (w : World) (hB : w.heap[Bd]? = some (.cells #[.slice (some ⟨g, o, none⟩) 1 c, .slice none 0 0] 240 (0, 0)))
    (h2 : w.cell? ⟨g, o + 2, none⟩ = some (.int .i64 a)) (h3 : w.cell? ⟨g, o + 3, none⟩ = some (.int .i64 b)) :
    Calls Tryz.prog 128 #[.pointer (some ⟨Bd, 0, none⟩)] w fun e w' => e = .returned (.agg #[.int .i64 (minV a 9223372036854775807), .int .i64 (maxV b (-9223372036854775808))]) ∧ Below w.heap.size w w' := by
  have hBs := blkLt hB
  have hgs := World.block_lt_of_cell? w ⟨g, o + 2, none⟩ h2
  obtain ⟨X, HX⟩ : ∃ X, Hid (minV a 9223372036854775807 = X) := ⟨_, rfl⟩
  obtain ⟨Y, HY⟩ : ∃ Y, Hid (maxV b (-9223372036854775808) = Y) := ⟨_, rfl⟩
  rw [HX.out, HY.out]
  have jn : ∀ W : World, Calls Tryz.prog 151 #[.agg #[.int .i64 a, .int .i64 b], .agg #[.int .i64 9223372036854775807, .int .i64 (-9223372036854775808)]] W fun e w' => e = .returned (.agg #[.int .i64 X, .int .i64 Y]) ∧ Below W.heap.size W w' := by
    intro W
    have := joined_any a b 9223372036854775807 (-9223372036854775808) W
    rw [HX.out, HY.out] at this
    exact this
  go_enter Tryz.func128, Tryz.ntmps128
  go_upto_region 1 with fail
  have hr1 := heap_alloc_new w (.cells #[.int .i64 0, .int .i64 0] 204)
  have B1 : Below w.heap.size w (w.alloc (.cells #[.int .i64 0, .int .i64 0] 204)) := (Below.refl _ w).alloc (Nat.le_refl _) _
  have hB1 := blkBelow hB B1
  have k2 := (B1.cell (p := ⟨g, o + 2, none⟩) hgs).trans h2
  have k3 := (B1.cell (p := ⟨g, o + 3, none⟩) hgs).trans h3
  have hB1' : Hid (Below w.heap.size w (w.alloc (.cells #[.int .i64 0, .int .i64 0] 204))) := B1
  have hRs := blkLt hr1
  have hgs1 : g < (w.alloc (.cells #[.int .i64 0, .int .i64 0] 204)).heap.size := World.block_lt_of_cell? _ ⟨g, o + 2, none⟩ k2
  have hBs1 := blkLt hB1
  generalize w.alloc (.cells #[.int .i64 0, .int .i64 0] 204) = W1 at *
  obtain ⟨b0, b1, -, -⟩ := cells2At hB1
  obtain ⟨r0, r1, rf, -⟩ := cells2At hr1
  obtain ⟨R, HR⟩ : ∃ R, Hid (w.heap.size = R) := ⟨_, rfl⟩
  have hBel : Hid (Below R w W1.drew) := by show Below R w W1.drew; rw [← HR.out]; exact hB1'.out.drew
  rw [HR.out] at hr1 r0 r1 rf hRs ⊢
  have hBR : Bd ≠ R := by rw [← HR.out]; omega
  have hRB : R ≠ Bd := Ne.symm hBR
  clear B1 hB1' h2 h3 hB hBs hgs
  go_region_held3 (fun W => W.cell? ⟨Bd, 0, none⟩ = some (.slice (some ⟨g, o, none⟩) 1 c) ∧ W.cell? ⟨Bd, 1, none⟩ = some (.slice none 0 0)) (go_keep) (first
    | (go_at_call 150; refine calls_fit #[.slice none 0 0] rfl (whole_nil none 0 _) ?_; rintro e w2 ⟨rfl, hb2⟩; have z2 : W1.heap.size ≤ w2.heap.size := (by first | exact hb2.size | exact Nat.le_trans z3 hb2.size); have u2 : w2.cell? ⟨Bd, 0, none⟩ = some (.slice (some ⟨g, o, none⟩) 1 c) := (by first | exact (hb2.cell (p := ⟨Bd, 0, none⟩) hBs1).trans b0 | exact (hb2.cell (p := ⟨Bd, 0, none⟩) (Nat.lt_of_lt_of_le hBs1 z3)).trans u3); have v2 : w2.cell? ⟨Bd, 1, none⟩ = some (.slice none 0 0) := (by first | exact (hb2.cell (p := ⟨Bd, 1, none⟩) hBs1).trans b1 | exact (hb2.cell (p := ⟨Bd, 1, none⟩) (Nat.lt_of_lt_of_le hBs1 z3)).trans v3); have m2 : Hid (w2.cell? ⟨g, o + 2, none⟩ = some (.int .i64 a) ∧ w2.cell? ⟨g, o + 3, none⟩ = some (.int .i64 b)) := (by first | exact ⟨(hb2.cell (p := ⟨g, o + 2, none⟩) hgs1).trans k2, (hb2.cell (p := ⟨g, o + 3, none⟩) hgs1).trans k3⟩ | exact ⟨(hb2.cell (p := ⟨g, o + 2, none⟩) (Nat.lt_of_lt_of_le hgs1 z3)).trans m3.out.1, (hb2.cell (p := ⟨g, o + 3, none⟩) (Nat.lt_of_lt_of_le hgs1 z3)).trans m3.out.2⟩); have n2 : Hid (w2.heap[R]? = some (.cells #[.int .i64 0, .int .i64 0] 204 (0, 0))) := (by first | exact (hb2.block R hRs).trans hr1 | exact (hb2.block R (Nat.lt_of_lt_of_le hRs z3)).trans n3.out); have l2 : Hid (Below R w w2) := (by first | exact hBel.out.trans (hb2.mono (Nat.le_of_lt hRs)) | exact l3.out.trans (hb2.mono (Nat.le_of_lt (Nat.lt_of_lt_of_le hRs z3)))))
    | (go_at_call 150; refine calls_fit #[.slice (some ⟨g, o, none⟩) 1 c] rfl (whole_one g o c a b _ (by first | exact k2 | exact m2.out.1) (by first | exact k3 | exact m2.out.2)) ?_; rintro e w3 ⟨rfl, hb3⟩; have z3 : W1.heap.size ≤ w3.heap.size := (by first | exact hb3.size | exact Nat.le_trans z2 hb3.size); have u3 : w3.cell? ⟨Bd, 0, none⟩ = some (.slice (some ⟨g, o, none⟩) 1 c) := (by first | exact (hb3.cell (p := ⟨Bd, 0, none⟩) hBs1).trans b0 | exact (hb3.cell (p := ⟨Bd, 0, none⟩) (Nat.lt_of_lt_of_le hBs1 z2)).trans u2); have v3 : w3.cell? ⟨Bd, 1, none⟩ = some (.slice none 0 0) := (by first | exact (hb3.cell (p := ⟨Bd, 1, none⟩) hBs1).trans b1 | exact (hb3.cell (p := ⟨Bd, 1, none⟩) (Nat.lt_of_lt_of_le hBs1 z2)).trans v2); have m3 : Hid (w3.cell? ⟨g, o + 2, none⟩ = some (.int .i64 a) ∧ w3.cell? ⟨g, o + 3, none⟩ = some (.int .i64 b)) := (by first | exact ⟨(hb3.cell (p := ⟨g, o + 2, none⟩) hgs1).trans k2, (hb3.cell (p := ⟨g, o + 3, none⟩) hgs1).trans k3⟩ | exact ⟨(hb3.cell (p := ⟨g, o + 2, none⟩) (Nat.lt_of_lt_of_le hgs1 z2)).trans m2.out.1, (hb3.cell (p := ⟨g, o + 3, none⟩) (Nat.lt_of_lt_of_le hgs1 z2)).trans m2.out.2⟩); have n3 : Hid (w3.heap[R]? = some (.cells #[.int .i64 0, .int .i64 0] 204 (0, 0))) := (by first | exact (hb3.block R hRs).trans hr1 | exact (hb3.block R (Nat.lt_of_lt_of_le hRs z2)).trans n2.out); have l3 : Hid (Below R w w3) := (by first | exact hBel.out.trans (hb3.mono (Nat.le_of_lt hRs)) | exact l2.out.trans (hb3.mono (Nat.le_of_lt (Nat.lt_of_lt_of_le hRs z2)))))
    | (go_at_call 151; refine (jn _).mono ?_; rintro e w4 ⟨rfl, hb4⟩; have u4 : w4.cell? ⟨Bd, 0, none⟩ = some (.slice (some ⟨g, o, none⟩) 1 c) := (by first | exact (hb4.cell (p := ⟨Bd, 0, none⟩) (Nat.lt_of_lt_of_le hBs1 z2)).trans u2 | exact (hb4.cell (p := ⟨Bd, 0, none⟩) (Nat.lt_of_lt_of_le hBs1 z3)).trans u3); have v4 : w4.cell? ⟨Bd, 1, none⟩ = some (.slice none 0 0) := (by first | exact (hb4.cell (p := ⟨Bd, 1, none⟩) (Nat.lt_of_lt_of_le hBs1 z2)).trans v2 | exact (hb4.cell (p := ⟨Bd, 1, none⟩) (Nat.lt_of_lt_of_le hBs1 z3)).trans v3); have n4 : w4.heap[R]? = some (.cells #[.int .i64 0, .int .i64 0] 204 (0, 0)) := (by first | exact (hb4.block R (Nat.lt_of_lt_of_le hRs z2)).trans n2.out | exact (hb4.block R (Nat.lt_of_lt_of_le hRs z3)).trans n3.out); have l4 : Hid (Below R w w4) := (by first | exact l2.out.trans (hb4.mono (Nat.le_of_lt (Nat.lt_of_lt_of_le hRs z2))) | exact l3.out.trans (hb4.mono (Nat.le_of_lt (Nat.lt_of_lt_of_le hRs z3)))); obtain ⟨r40, r41, r4f, -⟩ := cells2At n4))
  all_goals
    have n5 := cells2Put (u := .int .i64 X) (v := .int .i64 Y) n4
    have l5 := (l4.out.setCell (p := ⟨R, 0, none⟩) (Nat.le_refl _) (.int .i64 X)).setCell (p := ⟨R, 1, none⟩) (Nat.le_refl _) (.int .i64 Y)
    clear r40 r41 r4f
    generalize (w4.setCell ⟨R, 0, none⟩ (.int .i64 X)).setCell ⟨R, 1, none⟩ (.int .i64 Y) = W5 at *
    obtain ⟨y0, y1, -, -⟩ := cells2At n5
    go_wp2
    exact bodyPost_ret (v := .agg #[.int .i64 X, .int .i64 Y]) (by simp [results, Tryz.results128, go_sem, y0, y1]) rfl ⟨rfl, by rw [HR.out]; exact l5⟩
end Go.Proofs.YtcfngdnmpogaoaaGreat
