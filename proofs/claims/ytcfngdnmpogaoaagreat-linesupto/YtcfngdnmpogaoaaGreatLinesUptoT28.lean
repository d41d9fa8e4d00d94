import Derived.Test.YtcfngdnmpogaoaaGreatLinesUptoT27
import Derived.Test.YtcfngdnmpogaoaaGreatLinesUptoT09

/-
  Feed, Close, Open, Line, Counts, New: as the pure flow has them.
-/
namespace Go.Proofs.YtcfngdnmpogaoaaGreat
open Go.RowKit Go.MuLone

/-- A flow at rest, and all that it has. -/
def FlowOn (w : World) (g : Nat) (c : Cf) (sp : Sp) (rs : List (List UInt8)) (F : Nat → Prop) (T : Option Int) : Prop := ∃ us, FlowSp w g 0 c sp us F T ∧ Rests w us rs F
theorem FlowOn.mono {w : World} {g : Nat} {c : Cf} {sp : Sp} {rs : List (List UInt8)} {F F' : Nat → Prop} {T : Option Int} (h : FlowOn w g c sp rs F T) (hF : ∀ k, F k → F' k) : FlowOn w g c sp rs F' T := by
  obtain ⟨us, h1, h2⟩ := h
  exact ⟨us, h1.mono hF, h2.ul, h2.rl, fun i v l hu hr => ⟨(h2.row i v l hu hr).1, fun k hk => hF k ((h2.row i v l hu hr).2.1 k hk), (h2.row i v l hu hr).2.2⟩⟩
theorem FlowOn.kept {w w' : World} {g : Nat} {c : Cf} {sp : Sp} {rs : List (List UInt8)} {F X : Nat → Prop} {T : Option Int} (h : FlowOn w g c sp rs F T) (hk : Kept X w w') (hX : ∀ k, F k → ¬ X k) : FlowOn w' g c sp rs F T := by
  obtain ⟨us, h1, h2⟩ := h
  exact ⟨us, h1.kept hk hX, h2.ul, h2.rl, fun i v l hu hr => ⟨(h2.row i v l hu hr).1.kept hk (fun k hk => hX k ((h2.row i v l hu hr).2.1 k hk)), (h2.row i v l hu hr).2⟩⟩
theorem FlowOn.below {w w' : World} {g : Nat} {c : Cf} {sp : Sp} {rs : List (List UInt8)} {F : Nat → Prop} {T : Option Int} (h : FlowOn w g c sp rs F T) (hb : Below w.heap.size w w') : FlowOn w' g c sp rs F T := h.kept (Kept.ofBelow hb (fun _ => False)) (fun _ _ h => h)

theorem Rests.step {w w' : World} {us : List Value} {rs : List (List UInt8)} {F F' : Nat → Prop} (h : Rests w us rs F) (hb : Bytes8 w w') (hF : ∀ k, F k → F' k) : Rests w' us rs F' :=
  ⟨h.ul, h.rl, fun i v l hu hr => ⟨(h.row i v l hu hr).1.bytes8 hb, fun k hk => hF k ((h.row i v l hu hr).2.1 k hk), (h.row i v l hu hr).2.2⟩⟩
theorem Rests.set {w : World} {us : List Value} {rs : List (List UInt8)} {F : Nat → Prop} (h : Rests w us rs F) (n : Nat) (v : Value) (l : List UInt8) (hr : Row w 5 1 v (l.map byteV)) (hF : ∀ k, v.ownBlock = some k → F k) (hl : l.length ≤ 300) : Rests w (us.set n v) (rs.set n l) F := by
  refine ⟨by rw [List.length_set]; exact h.ul, by rw [List.length_set]; exact h.rl, fun i u m hu hm => ?_⟩
  rw [List.getElem?_set] at hu hm
  by_cases hi : n = i
  · subst hi
    rw [if_pos rfl] at hu hm
    split at hu
    · split at hm
      · cases hu; cases hm; exact ⟨hr, hF, hl⟩
      · cases hm
    · cases hu
  · rw [if_neg hi] at hu hm; exact h.row i u m hu hm
theorem Rests.at {w : World} {us : List Value} {rs : List (List UInt8)} {F : Nat → Prop} (h : Rests w us rs F) (n : Nat) (hn : n < 8) : ∃ v l, us[n]? = some v ∧ rs[n]? = some l := ⟨_, _, List.getElem?_eq_getElem (by rw [h.ul]; exact hn), List.getElem?_eq_getElem (by rw [h.rl]; exact hn)⟩

theorem feed_on (g n : Nat) (c : Cf) (sp : Sp) (rs : List (List UInt8)) (F : Nat → Prop) (T : Option Int) (bv : Value) (l l0 : List UInt8) (s : SrcS) (w : World) (h : FlowOn w g c sp rs F T) (hs : sp.src[n]? = some s) (ho : s.opened = true) (hbr : s.broken = false) (hl0 : rs[n]? = some l0) (hb : Row w 5 1 bv (l.map byteV)) (hE : sp.E.length + l.length < 90000000) :
    Calls Tryz.prog 20 #[.pointer (some ⟨g, 0, none⟩), .int .i64 n, bv] w fun e w' => e = .returned (.int .i64 0) ∧ FlowOn w' g c (feedF c n ((l0 ++ l).length + 1) sp (l0 ++ l)).1 (rs.set n (feedF c n ((l0 ++ l).length + 1) sp (l0 ++ l)).2) (Grown F w) T ∧ Kept F w w' := by
  obtain ⟨us, h1, h2⟩ := h
  have hlen := h1.srcLen
  have hn : n < sp.src.length := (List.getElem?_eq_some_iff.1 hs).1
  have hn8 : n < 8 := by omega
  obtain ⟨v0, -, hv0, -⟩ := h2.at n hn8
  obtain ⟨hr0, hf0, hlen0⟩ := h2.row n v0 l0 hv0 hl0
  obtain ⟨st, ⟨r, gs, es, h3, rfl, hlk, rfl, h5⟩, hm, hfit, h4, h6⟩ := h1
  have hsrc : r.src.map srcS = sp.src := congrArg Sp.src h4
  have hFg : F g := h5 g (.inl rfl)
  obtain ⟨x, hx⟩ : ∃ x, r.src[n]? = some x := ⟨r.src[n]'(by rw [h3.sf.len]; exact hn8), List.getElem?_eq_getElem _⟩
  have hxs : srcS x = s := by
    rw [← hsrc, List.getElem?_map, hx] at hs; simpa using hs
  have hxu : x.unread = v0 := by
    rw [List.getElem?_map, hx] at hv0; simpa using hv0
  have hxo : x.opened = true := by rw [← ho, ← hxs]; rfl
  have hxb : x.broken = false := by rw [← hbr, ← hxs]; rfl
  generalize hR : feedF c n ((l0 ++ l).length + 1) sp (l0 ++ l) = R
  refine (feed_of g n r x bv w h3.sf hlk hx hxo (fun W => ∃ v, FlowSp W g 1 c R.1 ((r.src.map SSrc.unread).set n v) (Grown F w) T ∧ Kept F w W ∧ Bytes8 w W ∧ Row W 5 1 v (R.2.map byteV) ∧ (∀ k, v.ownBlock = some k → w.heap.size ≤ k) ∧ R.2.length ≤ 300) (fun W hW => ?_) (fun W1 q1 k1 => ?_)).mono ?_
  · obtain ⟨v, hW, _⟩ := hW
    exact hW.lockAt
  · have kf1 : Kept F w W1 := k1.mono (fun k _ e => by rw [e]; exact hFg)
    have kb1 : Bytes8 w W1 := h3.bytes8 (k1.mono (fun k _ e => .inl e))
    have f1 : FlowSp W1 g 1 c sp (r.src.map SSrc.unread) (Grown F w) T := by
      refine ⟨_, ⟨r.lock 1, gs, es, h3.turn k1 q1 rfl rfl, rfl, rfl, rfl, fun j hj => .inl (h5 j ?_)⟩, hm, hfit, h4, h6⟩
      rcases hj with hj | hj | hj | hj
      · exact .inl hj
      · exact .inr (.inl hj)
      · exact .inr (.inr (.inl hj))
      · exact .inr (.inr (.inr hj))
    refine read_new g (6 + n * 5) w.heap.size v0 bv l0 l W1 _ (fun W L => ∃ sp' f, FlowSp W g 1 c sp' (r.src.map SSrc.unread) (Grown F w) T ∧ Kept F w W ∧ Bytes8 w W ∧ sp'.E.length + L.length ≤ sp.E.length + (l0 ++ l).length ∧ L.length < f ∧ feedF c n f sp' L = R)
      (by rw [← hxb]; exact q1.cell (SCells.srcAt _ n 1 x hx (by omega))) (by rw [← hxu]; exact q1.cell (SCells.srcAt _ n 2 x hx (by omega))) (hr0.bytes8 kb1) (hb.bytes8 kb1) (by omega)
      ⟨sp, _, f1, kf1, kb1, Nat.le_refl _, Nat.lt_succ_self _, hR⟩ ?_ ?_ ?_ ?_ ?_
    · rintro W W' L ⟨sp', f, a1, a2, a3, a4⟩ hbl
      exact ⟨sp', f, a1.below hbl, a2.step (Kept.ofBelow hbl (fun _ => False)) (fun _ _ h => h.elim), a3.trans (Bytes8.ofBelow hbl), a4⟩
    · rintro W L ⟨sp', f, a1, a2, a3, a4, a5, a6⟩ hsh hok _
      obtain ⟨f, rfl⟩ : ∃ f', f = f' + 1 := ⟨f - 1, by omega⟩
      rw [feedF, hsh, hok] at a6
      simp only [Bool.false_eq_true, if_false, if_true] at a6
      have hne : 0 < L.length := by
        unfold unfShort at hsh
        simp only [decide_eq_false_iff_not] at hsh
        omega
      have hlen2 : (l0 ++ l).length ≤ 300 + l.length := by rw [List.length_append]; omega
      refine (do_sp g n 1 c sp' _ (Grown F w) T L W a1 (by rw [a1.srcLen.1]; exact hn8) hsh hok (by omega)).mono ?_
      rintro e W' ⟨rfl, b1, b2, b3⟩
      refine ⟨rfl, ⟨_, f, b1.mono (fun k hk => Grown.of a2.size hk), a2.grown b2, a3.trans b3, ?_, ?_, a6⟩, b3⟩
      · have := itemF_len c sp' n L
        rw [List.length_drop]; omega
      · rw [List.length_drop]; omega
    · rintro W L ⟨sp', f, a1, a2, a3, a4, a5, a6⟩ hsh hok
      obtain ⟨f, rfl⟩ : ∃ f', f = f' + 1 := ⟨f - 1, by omega⟩
      rw [feedF, hsh, hok] at a6
      simp only [Bool.false_eq_true, if_false] at a6
      have hlen2 : (l0 ++ l).length ≤ 300 + l.length := by rw [List.length_append]; omega
      refine (breakOff_sp g n 1 c sp' _ (Grown F w) T W a1 (by rw [a1.srcLen.1]; exact hn8) (by omega)).mono ?_
      rintro e W' ⟨rfl, b1, b2, b3⟩
      subst a6
      exact ⟨rfl, .slice none 0 0, b1.mono (fun k hk => Grown.of a2.size hk), a2.grown b2, a3.trans b3, Row.nil _ _ _, fun k hk => by simp [Value.ownBlock] at hk, by simp⟩
    · rintro W L ⟨sp', f, a1, a2, a3, a4, a5, a6⟩
      exact a2.size
    · rintro W L v ⟨sp', f, a1, a2, a3, a4, a5, a6⟩ hsh hrow hnew
      obtain ⟨f, rfl⟩ : ∃ f', f = f' + 1 := ⟨f - 1, by omega⟩
      rw [feedF, hsh] at a6
      simp only [if_true] at a6
      subst a6
      obtain ⟨u1, u2, u3⟩ := a1.unread n hn8 v
      have kk : Kept (Grown F w) W (W.setCell ⟨g, 6 + n * 5 + 2, none⟩ v) := (Kept.refl _ W).setCell ⟨g, _, none⟩ _ (fun _ => .inl hFg)
      have hb8 : Bytes8 W (W.setCell ⟨g, 6 + n * 5 + 2, none⟩ v) := by
        obtain ⟨st', ⟨r', gs', es', z1, _⟩, _⟩ := a1
        exact z1.bytes8 ((Kept.refl _ W).setCell ⟨g, _, none⟩ _ (fun _ => .inl rfl))
      exact ⟨u1, u2, v, u3, a2.grown kk, a3.trans hb8, hrow.bytes8 hb8, hnew, short_len L hsh⟩
  · rintro e w' ⟨rfl, W, ⟨v, a1, a2, a3, a4, a5, a6⟩, rfl⟩
    obtain ⟨b1, b2⟩ := a1.lock 0
    have kk : Kept (Grown F w) W (W.setCell ⟨g, 0, none⟩ (.int .i32 0)) := (Kept.refl _ W).setCell ⟨g, _, none⟩ _ (fun _ => .inl hFg)
    have hb8 : Bytes8 W (W.setCell ⟨g, 0, none⟩ (.int .i32 0)) := by
      obtain ⟨st', ⟨r', gs', es', z1, _⟩, _⟩ := a1
      exact z1.bytes8 ((Kept.refl _ W).setCell ⟨g, _, none⟩ _ (fun _ => .inl rfl))
    exact ⟨rfl, ⟨_, b1, (h2.step (a3.trans hb8) (fun k hk => .inl hk)).set n v R.2 (a4.bytes8 hb8) (fun k hk => .inr (a5 k hk)) a6⟩, a2.grown kk⟩
end Go.Proofs.YtcfngdnmpogaoaaGreat

/-
  The calls of a flow, one by one, as the pure flow has them.
-/
namespace Go.Proofs.YtcfngdnmpogaoaaGreat
open Go.RowKit Go.MuLone

theorem SCells.relock (r : SCells) (h : r.lk = 0) : (r.lock 1).lock 0 = r := by cases r; simp only at h; subst h; rfl

set_option maxHeartbeats 1600000 in
theorem feed_refused (g : Nat) (n : Int) (r : SCells) (bv : Value) (code : Int) (w : World) (h : SF w g r) (hlk : r.lk = 0) (hc : code = 3 ∨ code = 4)
    (hop : ∀ W, SF W g (r.lock 1) → Calls Tryz.prog 44 #[.pointer (some ⟨g, 0, none⟩), .int .i64 n] W fun e w' => e = .returned (.tuple #[.pointer none, .int .i64 code]) ∧ w' = W) :
    Calls Tryz.prog 20 #[.pointer (some ⟨g, 0, none⟩), .int .i64 n, bv] w fun e w' => e = .returned (.int .i64 code) ∧ SF w' g r ∧ Kept (fun k => k = g) w w' := by
  have h0 := h.lockAt hlk
  have f0 := h.frozen 0
  have H1 : Hid (SF (w.setCell ⟨g, 0, none⟩ (.int .i32 1)) g (r.lock 1)) := h.putLock 1
  have K1 : Hid (Kept (fun k => k = g) w (w.setCell ⟨g, 0, none⟩ (.int .i32 1))) := (Kept.refl _ w).setCell ⟨g, 0, none⟩ _ (fun _ => rfl)
  have HO : Hid (∀ W, SF W g (r.lock 1) → Calls Tryz.prog 44 #[.pointer (some ⟨g, 0, none⟩), .int .i64 n] W fun e w' => e = .returned (.tuple #[.pointer none, .int .i64 code]) ∧ w' = W) := hop
  clear h hop
  go_enter_defers Tryz.func20, Tryz.ntmps20
  go_wp2_with (go_at_call 42; refine (lock_free muLib ⟨g, 0, none⟩ _ h0 f0).mono ?_; rintro e w' ⟨rfl, rfl⟩)
  generalize w.setCell ⟨g, 0, none⟩ (.int .i32 1) = W1 at *
  clear h0 f0
  refine (HO.out W1 H1.out).mono ?_
  rintro e w' ⟨rfl, rfl⟩
  rcases hc with rfl | rfl
  all_goals
    go_wp2_with fail
    refine leaves_cons (f := 43) (args := #[.pointer (some ⟨g, 0, none⟩)]) (by simp) (by simp [go_sem]) ?_
    refine (unlock_deferred muLib ⟨g, 0, none⟩ .returning _ (H1.out.lockAt rfl) (H1.out.frozen _)).mono ?_
    rintro e u' w'' ⟨rfl, rfl, rfl⟩
    refine ⟨_, results_tmp rfl _ _ _, rfl, ?_, K1.out.setCell ⟨g, 0, none⟩ _ (fun _ => rfl)⟩
    have := H1.out.putLock 0
    rw [r.relock hlk] at this; exact this

set_option maxHeartbeats 1600000 in
theorem close_refused (g : Nat) (n : Int) (r : SCells) (code : Int) (w : World) (h : SF w g r) (hlk : r.lk = 0) (hc : code = 3 ∨ code = 4)
    (hop : ∀ W, SF W g (r.lock 1) → Calls Tryz.prog 44 #[.pointer (some ⟨g, 0, none⟩), .int .i64 n] W fun e w' => e = .returned (.tuple #[.pointer none, .int .i64 code]) ∧ w' = W) :
    Calls Tryz.prog 49 #[.pointer (some ⟨g, 0, none⟩), .int .i64 n] w fun e w' => e = .returned (.int .i64 code) ∧ SF w' g r ∧ Kept (fun k => k = g) w w' := by
  have h0 := h.lockAt hlk
  have f0 := h.frozen 0
  have H1 : Hid (SF (w.setCell ⟨g, 0, none⟩ (.int .i32 1)) g (r.lock 1)) := h.putLock 1
  have K1 : Hid (Kept (fun k => k = g) w (w.setCell ⟨g, 0, none⟩ (.int .i32 1))) := (Kept.refl _ w).setCell ⟨g, 0, none⟩ _ (fun _ => rfl)
  have HO : Hid (∀ W, SF W g (r.lock 1) → Calls Tryz.prog 44 #[.pointer (some ⟨g, 0, none⟩), .int .i64 n] W fun e w' => e = .returned (.tuple #[.pointer none, .int .i64 code]) ∧ w' = W) := hop
  clear h hop
  go_enter_defers Tryz.func49, Tryz.ntmps49
  go_wp2_with (go_at_call 42; refine (lock_free muLib ⟨g, 0, none⟩ _ h0 f0).mono ?_; rintro e w' ⟨rfl, rfl⟩)
  generalize w.setCell ⟨g, 0, none⟩ (.int .i32 1) = W1 at *
  clear h0 f0
  refine (HO.out W1 H1.out).mono ?_
  rintro e w' ⟨rfl, rfl⟩
  rcases hc with rfl | rfl
  all_goals
    go_wp2_with fail
    refine leaves_cons (f := 43) (args := #[.pointer (some ⟨g, 0, none⟩)]) (by simp) (by simp [go_sem]) ?_
    refine (unlock_deferred muLib ⟨g, 0, none⟩ .returning _ (H1.out.lockAt rfl) (H1.out.frozen _)).mono ?_
    rintro e u' w'' ⟨rfl, rfl, rfl⟩
    refine ⟨_, results_tmp rfl _ _ _, rfl, ?_, K1.out.setCell ⟨g, 0, none⟩ _ (fun _ => rfl)⟩
    have := H1.out.putLock 0
    rw [r.relock hlk] at this; exact this

set_option maxHeartbeats 1600000 in
theorem open_out (g : Nat) (n : Int) (r : SCells) (w : World) (h : SF w g r) (hlk : r.lk = 0) (hn : ¬ (0 ≤ n ∧ n < 8)) :
    Calls Tryz.prog 22 #[.pointer (some ⟨g, 0, none⟩), .int .i64 n] w fun e w' => e = .returned (.int .i64 3) ∧ SF w' g r ∧ Kept (fun k => k = g) w w' := by
  have hi := isSource_any n
  rw [decide_eq_false hn] at hi
  have h0 := h.lockAt hlk
  have f0 := h.frozen 0
  have H1 : Hid (SF (w.setCell ⟨g, 0, none⟩ (.int .i32 1)) g (r.lock 1)) := h.putLock 1
  have K1 : Hid (Kept (fun k => k = g) w (w.setCell ⟨g, 0, none⟩ (.int .i32 1))) := (Kept.refl _ w).setCell ⟨g, 0, none⟩ _ (fun _ => rfl)
  clear h hn
  go_enter_defers Tryz.func22, Tryz.ntmps22
  go_wp2_with (go_at_call 42; refine (lock_free muLib ⟨g, 0, none⟩ _ h0 f0).mono ?_; rintro e w' ⟨rfl, rfl⟩)
  generalize w.setCell ⟨g, 0, none⟩ (.int .i32 1) = W1 at *
  clear h0 f0
  refine (hi _).mono ?_
  rintro e w' ⟨rfl, rfl⟩
  go_wp2_with fail
  refine leaves_cons (f := 43) (args := #[.pointer (some ⟨g, 0, none⟩)]) (by simp) (by simp [go_sem]) ?_
  refine (unlock_deferred muLib ⟨g, 0, none⟩ .returning _ (H1.out.lockAt rfl) (H1.out.frozen _)).mono ?_
  rintro e u' w'' ⟨rfl, rfl, rfl⟩
  refine ⟨_, results_tmp rfl _ _ _, rfl, ?_, K1.out.setCell ⟨g, 0, none⟩ _ (fun _ => rfl)⟩
  have := H1.out.putLock 0
  rw [r.relock hlk] at this; exact this

set_option maxHeartbeats 1600000 in
theorem open_no (g n : Nat) (r : SCells) (s : SSrc) (w : World) (h : SF w g r) (hlk : r.lk = 0) (hs : r.src[n]? = some s) (ho : s.opened = true) :
    Calls Tryz.prog 22 #[.pointer (some ⟨g, 0, none⟩), .int .i64 n] w fun e w' => e = .returned (.int .i64 4) ∧ SF w' g r ∧ Kept (fun k => k = g) w w' := by
  have hn : n < 8 := by have := (List.getElem?_eq_some_iff.1 hs).1; have := h.len; omega
  have hi := isSource_any n
  rw [decide_eq_true (show 0 ≤ (n : Int) ∧ (n : Int) < 8 by omega)] at hi
  have h0 := h.lockAt hlk
  have f0 := h.frozen 0
  have H1 : Hid (SF (w.setCell ⟨g, 0, none⟩ (.int .i32 1)) g (r.lock 1)) := h.putLock 1
  have K1 : Hid (Kept (fun k => k = g) w (w.setCell ⟨g, 0, none⟩ (.int .i32 1))) := (Kept.refl _ w).setCell ⟨g, 0, none⟩ _ (fun _ => rfl)
  clear h
  go_enter_defers Tryz.func22, Tryz.ntmps22
  go_wp2_with (go_at_call 42; refine (lock_free muLib ⟨g, 0, none⟩ _ h0 f0).mono ?_; rintro e w' ⟨rfl, rfl⟩)
  generalize w.setCell ⟨g, 0, none⟩ (.int .i32 1) = W1 at *
  have c0 : W1.cell? ⟨g, 6 + n * 5, none⟩ = some (.bool true) := H1.out.cell (by rw [← ho]; exact (r.lock 1).srcAt n 0 s hs (by omega))
  clear h0 f0
  refine (hi _).mono ?_
  rintro e w' ⟨rfl, rfl⟩
  go_wp2_with fail
  refine leaves_cons (f := 43) (args := #[.pointer (some ⟨g, 0, none⟩)]) (by simp) (by simp [go_sem]) ?_
  refine (unlock_deferred muLib ⟨g, 0, none⟩ .returning _ (H1.out.lockAt rfl) (H1.out.frozen _)).mono ?_
  rintro e u' w'' ⟨rfl, rfl, rfl⟩
  refine ⟨_, results_tmp rfl _ _ _, rfl, ?_, K1.out.setCell ⟨g, 0, none⟩ _ (fun _ => rfl)⟩
  have := H1.out.putLock 0
  rw [r.relock hlk] at this; exact this

theorem new_no (size slide late keys : Int) (w : World) (hc : ¬ isConf size slide late keys) :
    Calls Tryz.prog 41 #[confV size slide late keys] w fun e w' => e = .returned (.tuple #[.pointer none, .int .i64 1]) ∧ Below w.heap.size w w' := by
  have HC : Hid (¬ isConf size slide late keys) := hc
  clear hc
  go_enter Tryz.func41, Tryz.ntmps41
  go_wp2_with fail
  refine (isConfig_any size slide late keys _).mono ?_
  rintro e W ⟨⟨b, rfl, hb⟩, hB⟩
  have hbt : b = false := by
    cases b with
    | false => rfl
    | true => exact absurd (hb.1 rfl) HC.out
  subst hbt
  have HB : Hid (Below w.heap.size w W) := ((Below.refl _ w).alloc (Nat.le_refl _) _).trans (hB.mono (by simp))
  clear hB hb
  go_wp2_with fail
  exact bodyPost_ret (results_tmp2 rfl _ _ _) rfl ⟨rfl, HB.out⟩
end Go.Proofs.YtcfngdnmpogaoaaGreat

/-
  The calls of a flow, each by what it makes of the pure flow.
-/
namespace Go.Proofs.YtcfngdnmpogaoaaGreat
open Go.RowKit Go.MuLone

/-- A flow at rest, seen as its cells. -/
theorem FlowOn.touch {w : World} {g : Nat} {c : Cf} {sp : Sp} {rs : List (List UInt8)} {F : Nat → Prop} {T : Option Int} (h : FlowOn w g c sp rs F T) :
    ∃ r, SF w g r ∧ r.lk = 0 ∧ r.n = sp.n ∧ r.lt = sp.lt ∧ r.li = sp.li ∧ r.src.map srcS = sp.src ∧ F g ∧ ∀ w', SF w' g r → Kept (fun k => k = g) w w' → FlowOn w' g c sp rs F T := by
  obtain ⟨us, ⟨st, ⟨r, gs, es, h3, rfl, hlk, rfl, h5⟩, hm, hfit, h4, h6⟩, h2⟩ := h
  refine ⟨r, h3.sf, hlk, congrArg Sp.n h4, congrArg Sp.lt h4, congrArg Sp.li h4, congrArg Sp.src h4, h5 g (.inl rfl), fun w' hs hk => ?_⟩
  exact ⟨_, ⟨_, ⟨r, gs, es, h3.turn hk hs rfl rfl, rfl, hlk, rfl, h5⟩, hm, hfit, h4, h6⟩, h2.step (h3.bytes8 (hk.mono (fun k _ e => .inl e))) (fun k hk => hk)⟩
theorem FlowOn.srcLen {w : World} {g : Nat} {c : Cf} {sp : Sp} {rs : List (List UInt8)} {F : Nat → Prop} {T : Option Int} (h : FlowOn w g c sp rs F T) : sp.src.length = 8 ∧ rs.length = 8 := by
  obtain ⟨us, h1, h2⟩ := h
  exact ⟨h1.srcLen.1, h2.rl⟩

theorem srcAtS {l : List SSrc} {m : List SrcS} (h : l.map srcS = m) {n : Nat} {s : SrcS} (hs : m[n]? = some s) : ∃ x, l[n]? = some x ∧ srcS x = s := by
  rw [← h, List.getElem?_map] at hs
  cases hx : l[n]? with
  | none => rw [hx] at hs; cases hs
  | some x => rw [hx] at hs; exact ⟨x, rfl, by simpa using hs⟩

theorem feed_out_on (g : Nat) (n : Int) (c : Cf) (sp : Sp) (rs : List (List UInt8)) (F : Nat → Prop) (T : Option Int) (bv : Value) (w : World) (h : FlowOn w g c sp rs F T) (hn : ¬ (0 ≤ n ∧ n < 8)) :
    Calls Tryz.prog 20 #[.pointer (some ⟨g, 0, none⟩), .int .i64 n, bv] w fun e w' => e = .returned (.int .i64 3) ∧ FlowOn w' g c sp rs F T ∧ Kept F w w' := by
  obtain ⟨r, h1, h2, -, -, -, -, hF, h3⟩ := h.touch
  refine (feed_refused g n r bv 3 w h1 h2 (.inl rfl) (fun W _ => openSource_out g n W hn)).mono ?_
  rintro e w' ⟨rfl, h4, h5⟩
  exact ⟨rfl, h3 w' h4 h5, h5.mono (fun k _ e => by rw [e]; exact hF)⟩
theorem feed_no_on (g n : Nat) (c : Cf) (sp : Sp) (rs : List (List UInt8)) (F : Nat → Prop) (T : Option Int) (bv : Value) (s : SrcS) (w : World) (h : FlowOn w g c sp rs F T) (hs : sp.src[n]? = some s) (ho : s.opened = false) :
    Calls Tryz.prog 20 #[.pointer (some ⟨g, 0, none⟩), .int .i64 n, bv] w fun e w' => e = .returned (.int .i64 4) ∧ FlowOn w' g c sp rs F T ∧ Kept F w w' := by
  obtain ⟨r, h1, h2, -, -, -, hm, hF, h3⟩ := h.touch
  obtain ⟨x, hx, rfl⟩ := srcAtS hm hs
  refine (feed_refused g n r bv 4 w h1 h2 (.inr rfl) (fun W hW => openSource_no g n (r.lock 1) x W hW hx ho)).mono ?_
  rintro e w' ⟨rfl, h4, h5⟩
  exact ⟨rfl, h3 w' h4 h5, h5.mono (fun k _ e => by rw [e]; exact hF)⟩
theorem feed_broken_on (g n : Nat) (c : Cf) (sp : Sp) (rs : List (List UInt8)) (F : Nat → Prop) (T : Option Int) (bv : Value) (s : SrcS) (w : World) (h : FlowOn w g c sp rs F T) (hs : sp.src[n]? = some s) (ho : s.opened = true) (hb : s.broken = true) :
    Calls Tryz.prog 20 #[.pointer (some ⟨g, 0, none⟩), .int .i64 n, bv] w fun e w' => e = .returned (.int .i64 0) ∧ FlowOn w' g c sp rs F T ∧ Kept F w w' := by
  obtain ⟨r, h1, h2, -, -, -, hm, hF, h3⟩ := h.touch
  obtain ⟨x, hx, rfl⟩ := srcAtS hm hs
  refine (feed_of g n r x bv w h1 h2 hx ho (fun W => SF W g (r.lock 1) ∧ Kept (fun k => k = g) w W) (fun W hW => ⟨hW.1.lockAt rfl, hW.1.frozen _⟩) (fun W hW kW => ?_)).mono ?_
  · refine (read_broken g (6 + n * 5) bv W (by rw [← (show x.broken = true from hb)]; exact hW.cell (SCells.srcAt _ n 1 x hx (by omega)))).mono ?_
    rintro e w' ⟨rfl, rfl⟩
    exact ⟨rfl, hW, kW⟩
  · rintro e w' ⟨rfl, W, ⟨h4, h5⟩, rfl⟩
    have k6 : Kept (fun k => k = g) w (W.setCell ⟨g, 0, none⟩ (.int .i32 0)) := h5.setCell ⟨g, 0, none⟩ _ (fun _ => rfl)
    have h7 := h4.putLock 0
    rw [r.relock h2] at h7
    exact ⟨rfl, h3 _ h7 k6, k6.mono (fun k _ e => by rw [e]; exact hF)⟩
theorem close_out_on (g : Nat) (n : Int) (c : Cf) (sp : Sp) (rs : List (List UInt8)) (F : Nat → Prop) (T : Option Int) (w : World) (h : FlowOn w g c sp rs F T) (hn : ¬ (0 ≤ n ∧ n < 8)) :
    Calls Tryz.prog 49 #[.pointer (some ⟨g, 0, none⟩), .int .i64 n] w fun e w' => e = .returned (.int .i64 3) ∧ FlowOn w' g c sp rs F T ∧ Kept F w w' := by
  obtain ⟨r, h1, h2, -, -, -, -, hF, h3⟩ := h.touch
  refine (close_refused g n r 3 w h1 h2 (.inl rfl) (fun W _ => openSource_out g n W hn)).mono ?_
  rintro e w' ⟨rfl, h4, h5⟩
  exact ⟨rfl, h3 w' h4 h5, h5.mono (fun k _ e => by rw [e]; exact hF)⟩
theorem close_no_on (g n : Nat) (c : Cf) (sp : Sp) (rs : List (List UInt8)) (F : Nat → Prop) (T : Option Int) (s : SrcS) (w : World) (h : FlowOn w g c sp rs F T) (hs : sp.src[n]? = some s) (ho : s.opened = false) :
    Calls Tryz.prog 49 #[.pointer (some ⟨g, 0, none⟩), .int .i64 n] w fun e w' => e = .returned (.int .i64 4) ∧ FlowOn w' g c sp rs F T ∧ Kept F w w' := by
  obtain ⟨r, h1, h2, -, -, -, hm, hF, h3⟩ := h.touch
  obtain ⟨x, hx, rfl⟩ := srcAtS hm hs
  refine (close_refused g n r 4 w h1 h2 (.inr rfl) (fun W hW => openSource_no g n (r.lock 1) x W hW hx ho)).mono ?_
  rintro e w' ⟨rfl, h4, h5⟩
  exact ⟨rfl, h3 w' h4 h5, h5.mono (fun k _ e => by rw [e]; exact hF)⟩
theorem open_out_on (g : Nat) (n : Int) (c : Cf) (sp : Sp) (rs : List (List UInt8)) (F : Nat → Prop) (T : Option Int) (w : World) (h : FlowOn w g c sp rs F T) (hn : ¬ (0 ≤ n ∧ n < 8)) :
    Calls Tryz.prog 22 #[.pointer (some ⟨g, 0, none⟩), .int .i64 n] w fun e w' => e = .returned (.int .i64 3) ∧ FlowOn w' g c sp rs F T ∧ Kept F w w' := by
  obtain ⟨r, h1, h2, -, -, -, -, hF, h3⟩ := h.touch
  refine (open_out g n r w h1 h2 hn).mono ?_
  rintro e w' ⟨rfl, h4, h5⟩
  exact ⟨rfl, h3 w' h4 h5, h5.mono (fun k _ e => by rw [e]; exact hF)⟩
theorem open_no_on (g n : Nat) (c : Cf) (sp : Sp) (rs : List (List UInt8)) (F : Nat → Prop) (T : Option Int) (s : SrcS) (w : World) (h : FlowOn w g c sp rs F T) (hs : sp.src[n]? = some s) (ho : s.opened = true) :
    Calls Tryz.prog 22 #[.pointer (some ⟨g, 0, none⟩), .int .i64 n] w fun e w' => e = .returned (.int .i64 4) ∧ FlowOn w' g c sp rs F T ∧ Kept F w w' := by
  obtain ⟨r, h1, h2, -, -, -, hm, hF, h3⟩ := h.touch
  obtain ⟨x, hx, rfl⟩ := srcAtS hm hs
  refine (open_no g n r x w h1 h2 hx ho).mono ?_
  rintro e w' ⟨rfl, h4, h5⟩
  exact ⟨rfl, h3 w' h4 h5, h5.mono (fun k _ e => by rw [e]; exact hF)⟩
theorem line_on (g : Nat) (c : Cf) (sp : Sp) (rs : List (List UInt8)) (F : Nat → Prop) (T : Option Int) (w : World) (h : FlowOn w g c sp rs F T) :
    Calls Tryz.prog 29 #[.pointer (some ⟨g, 0, none⟩)] w fun e w' => e = .returned (.tuple #[.int .i64 sp.lt, .bool sp.li]) ∧ FlowOn w' g c sp rs F T ∧ Kept F w w' := by
  obtain ⟨r, h1, h2, -, e1, e2, -, hF, h3⟩ := h.touch
  rw [← e1, ← e2]
  refine (line_any g r w h1 h2).mono ?_
  rintro e w' ⟨rfl, h4, h5⟩
  exact ⟨rfl, h3 w' h4 h5, h5.mono (fun k _ e => by rw [e]; exact hF)⟩
theorem counts_on (g : Nat) (c : Cf) (sp : Sp) (rs : List (List UInt8)) (F : Nat → Prop) (T : Option Int) (w : World) (h : FlowOn w g c sp rs F T) :
    Calls Tryz.prog 27 #[.pointer (some ⟨g, 0, none⟩)] w fun e w' => e = .returned (countsV sp.n) ∧ FlowOn w' g c sp rs F T ∧ Kept F w w' := by
  obtain ⟨r, h1, h2, e1, -, -, -, hF, h3⟩ := h.touch
  rw [← e1]
  refine (counts_any g r w h1 h2).mono ?_
  rintro e w' ⟨rfl, h4, h5⟩
  exact ⟨rfl, h3 w' h4 h5, h5.mono (fun k _ e => by rw [e]; exact hF)⟩

/-- A source opened, closed. -/
def Sp.open (s : Sp) (n : Nat) : Sp := { s with src := s.src.modify n (fun x => ⟨true, x.broken, x.time, x.is⟩) }
def Sp.close0 (s : Sp) (n : Nat) : Sp := { s with src := s.src.modify n (fun _ => ⟨false, false, 0, false⟩) }
theorem modify_fits {l : List SrcS} (h : SrcFits l) (n : Nat) (f : SrcS → SrcS) (hf : ∀ s ∈ l, -2305843009213693952 ≤ (f s).time ∧ (f s).time ≤ 2305843009213693952) : SrcFits (l.modify n f) := fun s hs => by
  obtain ⟨i, hi, rfl⟩ := List.mem_iff_getElem.1 hs
  rw [List.getElem_modify]
  have hi' : i < l.length := by simpa using hi
  split
  · exact hf _ (by simp)
  · exact h _ (by simp)

theorem open_on (g n : Nat) (c : Cf) (sp : Sp) (rs : List (List UInt8)) (F : Nat → Prop) (T : Option Int) (s : SrcS) (w : World) (h : FlowOn w g c sp rs F T) (hs : sp.src[n]? = some s) (ho : s.opened = false) :
    Calls Tryz.prog 22 #[.pointer (some ⟨g, 0, none⟩), .int .i64 n] w fun e w' => e = .returned (.int .i64 0) ∧ FlowOn w' g c (sp.open n) rs F T ∧ Kept F w w' := by
  obtain ⟨us, ⟨st, ⟨r, gs, es, h3, rfl, hlk, rfl, h5⟩, hm, hfit, h4, rfl⟩, h2⟩ := h
  have hsrc : r.src.map srcS = sp.src := congrArg Sp.src h4
  obtain ⟨x, hx, rfl⟩ := srcAtS hsrc hs
  refine (open_yes g n r x w h3.sf hlk hx ho).mono ?_
  rintro e w' ⟨rfl, h6, h7⟩
  have hun : (r.src.set n ⟨true, x.broken, x.unread, x.time, x.is⟩).map SSrc.unread = r.src.map SSrc.unread := by
    refine List.ext_getElem? (fun i => ?_)
    rw [List.getElem?_map, List.getElem?_set, List.getElem?_map]
    by_cases hi : n = i
    · subst hi
      have hl : n < r.src.length := (List.getElem?_eq_some_iff.1 hx).1
      rw [if_pos rfl, if_pos hl, hx]; rfl
    · simp [hi]
  have kb := h3.bytes8 (h7.mono (fun k _ e => .inl e))
  refine ⟨rfl, ⟨_, ⟨stOf (r.setSrc n ⟨true, x.broken, x.unread, x.time, x.is⟩) gs es, ⟨_, gs, es, h3.turn h7 h6 rfl rfl, rfl, hlk, hun, fun k hk => h5 k ?_⟩, hm.congr rfl rfl rfl rfl rfl rfl rfl rfl, modify_fits hfit n _ (fun y hy => hfit y hy), ?_, rfl⟩, h2.step kb (fun k hk => hk)⟩, h7.mono (fun k _ e => by rw [e]; exact h5 g (.inl rfl))⟩
  · rcases hk with hj | hj | hj | hj
    · exact .inl hj
    · exact .inr (.inl hj)
    · exact .inr (.inr (.inl hj))
    · exact .inr (.inr (.inr hj))
  · unfold Sp.open
    rw [← h4]
    unfold spOf stOf
    simp only [Sp.mk.injEq, true_and]
    first | exact ⟨src_set r.src n x _ _ hx rfl, rfl, rfl, rfl⟩ | exact src_set r.src n x _ _ hx rfl

theorem close_on (g n : Nat) (c : Cf) (sp : Sp) (rs : List (List UInt8)) (F : Nat → Prop) (T : Option Int) (s : SrcS) (w : World) (h : FlowOn w g c sp rs F T) (hs : sp.src[n]? = some s) (ho : s.opened = true) (hE : sp.E.length ≤ 100000000) :
    Calls Tryz.prog 49 #[.pointer (some ⟨g, 0, none⟩), .int .i64 n] w fun e w' => e = .returned (.int .i64 0) ∧ FlowOn w' g c ((sp.close0 n).line c) (rs.set n []) (Grown F w) T ∧ Kept F w w' := by
  obtain ⟨us, ⟨st, ⟨r, gs, es, h3, rfl, hlk, rfl, h5⟩, hm, hfit, h4, rfl⟩, h2⟩ := h
  have hsrc : r.src.map srcS = sp.src := congrArg Sp.src h4
  obtain ⟨x, hx, rfl⟩ := srcAtS hsrc hs
  have hFg : F g := h5 g (.inl rfl)
  refine (close_of g n r x w h3.sf hlk hx ho (fun W => FlowSp W g 1 (cfOf (stOf r gs es)) ((sp.close0 n).line (cfOf (stOf r gs es))) ((r.src.map SSrc.unread).set n (.slice none 0 0)) (Grown F w) T ∧ Kept F w W ∧ Bytes8 w W) (fun W hW => hW.1.lockAt) (fun W h6 k6 => ?_)).mono ?_
  · have hk6 : Kept (flowFoot g r gs es) w W := k6.mono (fun k _ e => .inl e)
    have hsp : spOf (stOf ((r.lock 1).setSrc n SSrc.zero) gs es) sp.E = sp.close0 n := by
      unfold Sp.close0
      rw [← h4]
      unfold spOf stOf
      simp only [Sp.mk.injEq, true_and]
      exact ⟨src_set r.src n x _ _ hx rfl, rfl, rfl, rfl⟩
    refine (moveLine_sp g 1 (cfOf (stOf r gs es)) (sp.close0 n) ((r.src.map SSrc.unread).set n (.slice none 0 0)) F T W ⟨stOf ((r.lock 1).setSrc n SSrc.zero) gs es, ⟨_, gs, es, h3.turn k6 h6 rfl rfl, rfl, rfl, set_map _ _ _ _, fun k hk => h5 k ?_⟩, hm.congr rfl rfl rfl rfl rfl rfl rfl rfl, modify_fits hfit n _ (fun _ _ => by decide), hsp, rfl⟩ hE).mono ?_
    · rcases hk with hk | hk | hk | hk
      · exact .inl hk
      · exact .inr (.inl hk)
      · exact .inr (.inr (.inl hk))
      · exact .inr (.inr (.inr hk))
    · rintro e w' ⟨rfl, h7, h8, h9⟩
      refine ⟨rfl, h7.mono (fun k hk => ?_), (hk6.mono (fun k _ e => h5 k e)).trans h8, (h3.bytes8 hk6).trans h9⟩
      rcases hk with hk | hk
      · exact .inl hk
      · exact .inr (by have := k6.size; omega)
  · rintro e w' ⟨rfl, W, ⟨a1, a2, a3⟩, rfl⟩
    obtain ⟨b1, b2⟩ := a1.lock 0
    have kk : Kept F W (W.setCell ⟨g, 0, none⟩ (.int .i32 0)) := (Kept.refl _ W).setCell ⟨g, _, none⟩ _ (fun _ => hFg)
    have hb8 : Bytes8 W (W.setCell ⟨g, 0, none⟩ (.int .i32 0)) := by
      obtain ⟨st', ⟨r', gs', es', z1, _⟩, _⟩ := a1
      exact z1.bytes8 ((Kept.refl _ W).setCell ⟨g, _, none⟩ _ (fun _ => .inl rfl))
    exact ⟨rfl, ⟨_, b1, (h2.step (a3.trans hb8) (fun k hk => .inl hk)).set n _ [] (Row.nil _ _ _) (fun k hk => by simp [Value.ownBlock] at hk) (by simp)⟩, a2.trans kk⟩

def Sp.new : Sp := ⟨List.replicate 8 ⟨false, false, 0, false⟩, [], 0, false, ⟨0, 0, 0, 0, 0, 0⟩⟩
theorem new_on (size slide late keys : Int) (w : World) (hc : isConf size slide late keys) :
    Calls Tryz.prog 41 #[confV size slide late keys] w fun e w' => ∃ g, w.heap.size ≤ g ∧ e = .returned (.tuple #[.pointer (some ⟨g, 0, none⟩), .int .i64 0]) ∧ FlowOn w' g ⟨size, slide, late, keys⟩ Sp.new (List.replicate 8 []) (fun k => k = g) none ∧ Below w.heap.size w w' := by
  refine (new_yes size slide late keys w hc).mono ?_
  rintro e w' ⟨g, h1, h2, h3, h4⟩
  refine ⟨g, h1, h2, ⟨List.replicate 8 (.slice none 0 0), ⟨stOf (SCells.new size slide late keys) [] [], ⟨_, [], [], ⟨h3, Row.nil _ _ _, Row.nil _ _ _, fun k hk => by simp [SCells.new, Value.ownBlock] at hk, fun x hx => by simp at hx, List.Pairwise.nil⟩, rfl, rfl, rfl, fun k hk => ?_⟩, ?_, ?_, rfl, rfl⟩, ?_⟩, h4⟩
  · rcases hk with hk | hk | hk | ⟨x, hx, hk⟩
    · exact hk
    · simp [SCells.new, Value.ownBlock] at hk
    · simp [SCells.new, Value.ownBlock] at hk
    · simp at hx
  · obtain ⟨c1, c2, c3, c4, c5, c6, c7, c8⟩ := hc
    exact ⟨⟨c1, c2, c3, c5, c6, c7, c8⟩, List.Pairwise.nil, (by show (0 : Int) ≤ keys; omega), fun r hr => (by simp [stOf, rsOf] at hr), List.Perm.nil, List.Pairwise.nil, fun r hr => (by simp [stOf, rsOf] at hr), fun r hr => (by simp [stOf, rsOf] at hr), fun t ht => (by cases ht), fun e he => (by simp [Sp.new] at he)⟩
  · intro s hs
    simp only [Sp.new, List.mem_replicate] at hs
    rw [hs.2]; decide
  · refine ⟨rfl, rfl, fun i v l hv hl => ?_⟩
    rw [List.getElem?_replicate] at hv hl
    split at hv
    · cases hv
      split at hl
      · cases hl; exact ⟨Row.nil _ _ _, fun k hk => by simp [Value.ownBlock] at hk, by simp⟩
      · rename_i a b; exact absurd a b
    · cases hv
end Go.Proofs.YtcfngdnmpogaoaaGreat
