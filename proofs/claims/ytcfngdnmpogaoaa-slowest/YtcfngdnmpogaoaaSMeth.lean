/-
  The calls of the code's flow: New, Open, Feed, Close, Line, Counts, where they are not refused.
-/
import Derived.Test.YtcfngdnmpogaoaaSRead2
namespace Go.Proofs.Ytcfngdnmpogaoaa
open Go.RowKit Go.MuLone

theorem SF.lockAt {w : World} {g : Nat} {r : SCells} (h : SF w g r) {k : Int} (hk : r.lk = k) : w.cell? ⟨g, 0, none⟩ = some (.int .i32 k) := by rw [← hk]; exact h.headAt 0 rfl

set_option maxHeartbeats 1600000 in
theorem open_yes (g n : Nat) (r : SCells) (s : SSrc) (w : World) (h : SF w g r) (hlk : r.lk = 0) (hs : r.src[n]? = some s) (ho : s.opened = false) :
    Calls Try.prog 7 #[.pointer (some ⟨g, 0, none⟩), .int .i64 n] w fun e w' => e = .returned (.int .i64 0) ∧ SF w' g (r.setSrc n ⟨true, s.broken, s.unread, s.time, s.is⟩) ∧ Kept (fun k => k = g) w w' := by
  have hn : n < 8 := by have := (List.getElem?_eq_some_iff.1 hs).1; have := h.len; omega
  have hi := isSource_any n
  rw [decide_eq_true (show 0 ≤ (n : Int) ∧ (n : Int) < 8 by omega)] at hi
  have h0 := h.lockAt hlk
  have f0 := h.frozen 0
  have H1 : Hid (SF (w.setCell ⟨g, 0, none⟩ (.int .i32 1)) g (r.lock 1)) := h.putLock 1
  have K1 : Hid (Kept (fun k => k = g) w (w.setCell ⟨g, 0, none⟩ (.int .i32 1))) := (Kept.refl _ w).setCell ⟨g, 0, none⟩ _ (fun _ => rfl)
  clear h
  go_enter_defers Try.func7, Try.ntmps7
  go_wp2_with (go_at_call 13; refine (lock_free muLib ⟨g, 0, none⟩ _ h0 f0).mono ?_; rintro e w' ⟨rfl, rfl⟩)
  generalize w.setCell ⟨g, 0, none⟩ (.int .i32 1) = W1 at *
  have c0 : W1.cell? ⟨g, 6 + n * 5, none⟩ = some (.bool false) := H1.out.cell (by rw [← ho]; exact (r.lock 1).srcAt n 0 s hs (by omega))
  have fz : ∀ j, W1.frozen? ⟨g, j, none⟩ = false := H1.out.frozen
  clear h0 f0
  refine (hi _).mono ?_
  rintro e w' ⟨rfl, rfl⟩
  go_wp2_with fail
  have H2 : Hid (SF (w'.setCell ⟨g, 6 + n * 5, none⟩ (.bool true)) g ((r.lock 1).setSrc n ⟨true, s.broken, s.unread, s.time, s.is⟩)) := H1.out.putSrc n 0 s _ _ hs (by omega) rfl
  have K2 : Hid (Kept (fun k => k = g) w (w'.setCell ⟨g, 6 + n * 5, none⟩ (.bool true))) := K1.out.setCell ⟨g, _, none⟩ _ (fun _ => rfl)
  generalize w'.setCell ⟨g, 6 + n * 5, none⟩ (.bool true) = W2 at *
  refine leaves_cons (f := 14) (args := #[.pointer (some ⟨g, 0, none⟩)]) (by simp) (by simp [go_sem]) ?_
  refine (unlock_deferred muLib ⟨g, 0, none⟩ .returning _ (H2.out.lockAt rfl) (H2.out.frozen _)).mono ?_
  rintro e u' w'' ⟨rfl, rfl, rfl⟩
  refine ⟨_, results_tmp rfl _ _ _, rfl, ?_, K2.out.setCell ⟨g, 0, none⟩ _ (fun _ => rfl)⟩
  have := H2.out.putLock 0
  have e : (SCells.lock ((r.lock 1).setSrc n ⟨true, s.broken, s.unread, s.time, s.is⟩) 0) = r.setSrc n ⟨true, s.broken, s.unread, s.time, s.is⟩ := by
    cases r; simp only at hlk; subst hlk; rfl
  rw [e] at this; exact this

set_option maxHeartbeats 1600000 in
theorem line_any (g : Nat) (r : SCells) (w : World) (h : SF w g r) (hlk : r.lk = 0) :
    Calls Try.prog 6 #[.pointer (some ⟨g, 0, none⟩)] w fun e w' => e = .returned (.tuple #[.int .i64 r.lt, .bool r.li]) ∧ SF w' g r ∧ Kept (fun k => k = g) w w' := by
  have h0 := h.lockAt hlk
  have f0 := h.frozen 0
  have H1 : Hid (SF (w.setCell ⟨g, 0, none⟩ (.int .i32 1)) g (r.lock 1)) := h.putLock 1
  have K1 : Hid (Kept (fun k => k = g) w (w.setCell ⟨g, 0, none⟩ (.int .i32 1))) := (Kept.refl _ w).setCell ⟨g, 0, none⟩ _ (fun _ => rfl)
  clear h
  go_enter_defers Try.func6, Try.ntmps6
  go_wp2_with (go_at_call 13; refine (lock_free muLib ⟨g, 0, none⟩ _ h0 f0).mono ?_; rintro e w' ⟨rfl, rfl⟩)
  generalize w.setCell ⟨g, 0, none⟩ (.int .i32 1) = W1 at *
  have c46 : W1.cell? ⟨g, 46, none⟩ = some (.int .i64 r.lt) := H1.out.tailAt 0 rfl
  have c47 : W1.cell? ⟨g, 47, none⟩ = some (.bool r.li) := H1.out.tailAt 1 rfl
  clear h0 f0
  go_quiet (fail)
  go_wp2
  have H2 : Hid (SF (W1.drewN nq) g (r.lock 1)) := H1.out.congr (by simp)
  have K2 : Hid (Kept (fun k => k = g) w (W1.drewN nq)) := K1.out.drewN nq
  generalize W1.drewN nq = W2 at *
  refine leaves_cons (f := 14) (args := #[.pointer (some ⟨g, 0, none⟩)]) (by simp) (by simp [go_sem]) ?_
  refine (unlock_deferred muLib ⟨g, 0, none⟩ .returning _ (H2.out.lockAt rfl) (H2.out.frozen _)).mono ?_
  rintro e u' w'' ⟨rfl, rfl, rfl⟩
  refine ⟨_, results_tmp2 rfl _ _ _, rfl, ?_, K2.out.setCell ⟨g, 0, none⟩ _ (fun _ => rfl)⟩
  have := H2.out.putLock 0
  have e : (SCells.lock (r.lock 1) 0) = r := by cases r; simp only at hlk; subst hlk; rfl
  rw [e] at this; exact this

set_option maxHeartbeats 1600000 in
theorem feed_of (g n : Nat) (r : SCells) (s : SSrc) (bv : Value) (w : World) (h : SF w g r) (hlk : r.lk = 0) (hs : r.src[n]? = some s) (ho : s.opened = true) (P : World → Prop)
    (hP : ∀ W, P W → W.cell? ⟨g, 0, none⟩ = some (.int .i32 1) ∧ W.frozen? ⟨g, 0, none⟩ = false)
    (hread : ∀ W, SF W g (r.lock 1) → Kept (fun k => k = g) w W → Calls Try.prog 17 #[.pointer (some ⟨g, 0, none⟩), .pointer (some ⟨g, 6 + n * 5, none⟩), bv] W fun e W' => e = .returned (.tuple #[]) ∧ P W') :
    Calls Try.prog 8 #[.pointer (some ⟨g, 0, none⟩), .int .i64 n, bv] w fun e w' => e = .returned (.int .i64 0) ∧ ∃ W, P W ∧ w' = W.setCell ⟨g, 0, none⟩ (.int .i32 0) := by
  have h0 := h.lockAt hlk
  have f0 := h.frozen 0
  have H1 : Hid (SF (w.setCell ⟨g, 0, none⟩ (.int .i32 1)) g (r.lock 1)) := h.putLock 1
  have K1 : Hid (Kept (fun k => k = g) w (w.setCell ⟨g, 0, none⟩ (.int .i32 1))) := (Kept.refl _ w).setCell ⟨g, 0, none⟩ _ (fun _ => rfl)
  have HP : Hid (∀ W, P W → W.cell? ⟨g, 0, none⟩ = some (.int .i32 1) ∧ W.frozen? ⟨g, 0, none⟩ = false) := hP
  have HR : Hid (∀ W, SF W g (r.lock 1) → Kept (fun k => k = g) w W → Calls Try.prog 17 #[.pointer (some ⟨g, 0, none⟩), .pointer (some ⟨g, 6 + n * 5, none⟩), bv] W fun e W' => e = .returned (.tuple #[]) ∧ P W') := hread
  clear h hP hread
  go_enter_defers Try.func8, Try.ntmps8
  go_wp2_with (go_at_call 13; refine (lock_free muLib ⟨g, 0, none⟩ _ h0 f0).mono ?_; rintro e w' ⟨rfl, rfl⟩)
  generalize w.setCell ⟨g, 0, none⟩ (.int .i32 1) = W1 at *
  clear h0 f0
  refine (openSource_yes g n (r.lock 1) s W1 H1.out hs ho).mono ?_
  rintro e w' ⟨rfl, rfl⟩
  go_wp2_with fail
  refine (HR.out _ H1.out K1.out).mono ?_
  rintro e W2 ⟨rfl, hp⟩
  have HP2 : Hid (P W2) := hp
  clear hp
  go_wp2_with fail
  refine leaves_cons (f := 14) (args := #[.pointer (some ⟨g, 0, none⟩)]) (by simp) (by simp [go_sem]) ?_
  refine (unlock_deferred muLib ⟨g, 0, none⟩ .returning _ (HP.out W2 HP2.out).1 (HP.out W2 HP2.out).2).mono ?_
  rintro e u' w'' ⟨rfl, rfl, rfl⟩
  exact ⟨_, results_tmp rfl _ _ _, rfl, W2, HP2.out, rfl⟩

set_option maxHeartbeats 1600000 in
theorem close_of (g n : Nat) (r : SCells) (s : SSrc) (w : World) (h : SF w g r) (hlk : r.lk = 0) (hs : r.src[n]? = some s) (ho : s.opened = true) (P : World → Prop)
    (hP : ∀ W, P W → W.cell? ⟨g, 0, none⟩ = some (.int .i32 1) ∧ W.frozen? ⟨g, 0, none⟩ = false)
    (hmove : ∀ W, SF W g ((r.lock 1).setSrc n SSrc.zero) → Kept (fun k => k = g) w W → Calls Try.prog 19 #[.pointer (some ⟨g, 0, none⟩)] W fun e W' => e = .returned (.tuple #[]) ∧ P W') :
    Calls Try.prog 10 #[.pointer (some ⟨g, 0, none⟩), .int .i64 n] w fun e w' => e = .returned (.int .i64 0) ∧ ∃ W, P W ∧ w' = W.setCell ⟨g, 0, none⟩ (.int .i32 0) := by
  have h0 := h.lockAt hlk
  have f0 := h.frozen 0
  have H1 : Hid (SF (w.setCell ⟨g, 0, none⟩ (.int .i32 1)) g (r.lock 1)) := h.putLock 1
  have K1 : Hid (Kept (fun k => k = g) w (w.setCell ⟨g, 0, none⟩ (.int .i32 1))) := (Kept.refl _ w).setCell ⟨g, 0, none⟩ _ (fun _ => rfl)
  have HP : Hid (∀ W, P W → W.cell? ⟨g, 0, none⟩ = some (.int .i32 1) ∧ W.frozen? ⟨g, 0, none⟩ = false) := hP
  have HR : Hid (∀ W, SF W g ((r.lock 1).setSrc n SSrc.zero) → Kept (fun k => k = g) w W → Calls Try.prog 19 #[.pointer (some ⟨g, 0, none⟩)] W fun e W' => e = .returned (.tuple #[]) ∧ P W') := hmove
  clear h hP hmove
  go_enter_defers Try.func10, Try.ntmps10
  go_wp2_with (go_at_call 13; refine (lock_free muLib ⟨g, 0, none⟩ _ h0 f0).mono ?_; rintro e w' ⟨rfl, rfl⟩)
  generalize w.setCell ⟨g, 0, none⟩ (.int .i32 1) = W1 at *
  clear h0 f0
  refine (openSource_yes g n (r.lock 1) s W1 H1.out hs ho).mono ?_
  rintro e w' ⟨rfl, rfl⟩
  have c0 : w'.cell? ⟨g, 6 + n * 5, none⟩ = some (.bool s.opened) := H1.out.cell ((r.lock 1).srcAt n 0 s hs (by omega))
  have c1 : w'.cell? ⟨g, 6 + n * 5 + 1, none⟩ = some (.bool s.broken) := H1.out.cell ((r.lock 1).srcAt n 1 s hs (by omega))
  have c2 : w'.cell? ⟨g, 6 + n * 5 + 2, none⟩ = some s.unread := H1.out.cell ((r.lock 1).srcAt n 2 s hs (by omega))
  have c3 : w'.cell? ⟨g, 6 + n * 5 + 3, none⟩ = some (.int .i64 s.time) := H1.out.cell ((r.lock 1).srcAt n 3 s hs (by omega))
  have c4 : w'.cell? ⟨g, 6 + n * 5 + 4, none⟩ = some (.bool s.is) := H1.out.cell ((r.lock 1).srcAt n 4 s hs (by omega))
  have fz : ∀ j, w'.frozen? ⟨g, j, none⟩ = false := H1.out.frozen
  have H2 : Hid (SF (((((w'.setCell ⟨g, 6 + n * 5, none⟩ (.bool false)).setCell ⟨g, 6 + n * 5 + 1, none⟩ (.bool false)).setCell ⟨g, 6 + n * 5 + 2, none⟩ (.slice none 0 0)).setCell ⟨g, 6 + n * 5 + 3, none⟩ (.int .i64 0)).setCell ⟨g, 6 + n * 5 + 4, none⟩ (.bool false)) g ((r.lock 1).setSrc n SSrc.zero)) := H1.out.putAll n s false false (.slice none 0 0) 0 false hs
  have K2 : Hid (Kept (fun k => k = g) w (((((w'.setCell ⟨g, 6 + n * 5, none⟩ (.bool false)).setCell ⟨g, 6 + n * 5 + 1, none⟩ (.bool false)).setCell ⟨g, 6 + n * 5 + 2, none⟩ (.slice none 0 0)).setCell ⟨g, 6 + n * 5 + 3, none⟩ (.int .i64 0)).setCell ⟨g, 6 + n * 5 + 4, none⟩ (.bool false))) := by
    refine Kept.setCell ?_ ⟨g, _, none⟩ _ (fun _ => rfl)
    refine Kept.setCell ?_ ⟨g, _, none⟩ _ (fun _ => rfl)
    refine Kept.setCell ?_ ⟨g, _, none⟩ _ (fun _ => rfl)
    refine Kept.setCell ?_ ⟨g, _, none⟩ _ (fun _ => rfl)
    refine Kept.setCell ?_ ⟨g, _, none⟩ _ (fun _ => rfl)
    exact K1.out
  go_wp2_with fail
  generalize ((((w'.setCell ⟨g, 6 + n * 5, none⟩ (.bool false)).setCell ⟨g, 6 + n * 5 + 1, none⟩ (.bool false)).setCell ⟨g, 6 + n * 5 + 2, none⟩ (.slice none 0 0)).setCell ⟨g, 6 + n * 5 + 3, none⟩ (.int .i64 0)).setCell ⟨g, 6 + n * 5 + 4, none⟩ (.bool false) = W3 at *
  refine (HR.out _ H2.out K2.out).mono ?_
  rintro e W2 ⟨rfl, hp⟩
  have HP2 : Hid (P W2) := hp
  clear hp
  go_wp2_with fail
  refine leaves_cons (f := 14) (args := #[.pointer (some ⟨g, 0, none⟩)]) (by simp) (by simp [go_sem]) ?_
  refine (unlock_deferred muLib ⟨g, 0, none⟩ .returning _ (HP.out W2 HP2.out).1 (HP.out W2 HP2.out).2).mono ?_
  rintro e u' w'' ⟨rfl, rfl, rfl⟩
  exact ⟨_, results_tmp rfl _ _ _, rfl, W2, HP2.out, rfl⟩

theorem new_yes (size slide late keys : Int) (w : World) (hc : isConf size slide late keys) :
    Calls Try.prog 12 #[confV size slide late keys] w fun e w' => ∃ g, w.heap.size ≤ g ∧ e = .returned (.tuple #[.pointer (some ⟨g, 0, none⟩), .int .i64 0]) ∧ SF w' g (SCells.new size slide late keys) ∧ Below w.heap.size w w' := by
  have HC : Hid (isConf size slide late keys) := hc
  clear hc
  go_enter Try.func12, Try.ntmps12
  go_wp2_with fail
  refine (isConfig_any size slide late keys _).mono ?_
  rintro e W ⟨⟨b, rfl, hb⟩, hB⟩
  have hbt : b = true := hb.2 HC.out
  subst hbt
  have c0 : W.cell? ⟨w.heap.size, 0, none⟩ = some (.int .i64 size) := by rw [hB.cell (by simp)]; simp
  have c1 : W.cell? ⟨w.heap.size, 1, none⟩ = some (.int .i64 slide) := by rw [hB.cell (by simp)]; simp
  have c2 : W.cell? ⟨w.heap.size, 2, none⟩ = some (.int .i64 late) := by rw [hB.cell (by simp)]; simp
  have c3 : W.cell? ⟨w.heap.size, 3, none⟩ = some (.int .i64 keys) := by rw [hB.cell (by simp)]; simp
  have HB : Hid (Below w.heap.size w W) := ((Below.refl _ w).alloc (Nat.le_refl _) _).trans (hB.mono (by simp))
  clear hB hb
  go_wp2_with fail
  refine bodyPost_ret (results_tmp2 rfl _ _ _) rfl ⟨W.heap.size, HB.out.size, rfl, ⟨?_, rfl⟩, HB.out.alloc HB.out.size _⟩
  rw [heap_alloc_new]
  rfl
end Go.Proofs.Ytcfngdnmpogaoaa
