/-
  A mark done, a source broken off: where no key is going on.
-/
import Derived.Test.YtcfngdnmpogaoaaSEnd
import Derived.Test.YtcfngdnmpogaoaaPure
namespace Go.Proofs.Ytcfngdnmpogaoaa
open Go.RowKit

/-- Numbers that fit. -/
structure SCells.Fits (r : SCells) : Prop where
  src : ∀ s ∈ r.src, -2305843009213693952 ≤ s.time ∧ s.time ≤ 2305843009213693952
  late : 0 ≤ r.late ∧ r.late ≤ 1099511627776

theorem leastF_fits (l : List SSrc) (h : ∀ s ∈ l, -2305843009213693952 ≤ s.time ∧ s.time ≤ 2305843009213693952) : -2305843009213693952 ≤ (leastF l).1 ∧ (leastF l).1 ≤ 2305843009213693952 := by
  unfold leastF
  have key : ∀ (l : List SSrc) (m : Int × Bool), (∀ s ∈ l, -2305843009213693952 ≤ s.time ∧ s.time ≤ 2305843009213693952) → (-2305843009213693952 ≤ m.1 ∧ m.1 ≤ 2305843009213693952) → -2305843009213693952 ≤ (l.foldl leastStep m).1 ∧ (l.foldl leastStep m).1 ≤ 2305843009213693952 := by
    intro l
    induction l with
    | nil => intro m _ hm; exact hm
    | cons s l ih =>
      intro m hl hm
      refine ih _ (fun x hx => hl x (List.mem_cons_of_mem _ hx)) ?_
      unfold leastStep
      split
      · exact hl s List.mem_cons_self
      · exact hm
  exact key l _ h (by simp)

theorem SCells.Fits.wrap {r : SCells} (h : r.Fits) : IntKind.i64.wrap ((leastF r.src).1 - r.late) = (leastF r.src).1 - r.late := by
  have := leastF_fits r.src h.src
  have := h.late
  rw [IntKind.wrap_i64]; omega

theorem SCells.moved_src (r : SCells) : r.moved.src = r.src := by unfold SCells.moved; (repeat' split) <;> rfl
theorem SCells.moved_late (r : SCells) : r.moved.late = r.late := by unfold SCells.moved; (repeat' split) <;> rfl
theorem SCells.moved_going (r : SCells) : r.moved.going = r.going := by unfold SCells.moved; (repeat' split) <;> rfl
theorem SCells.moved_lk (r : SCells) : r.moved.lk = r.lk := by unfold SCells.moved; (repeat' split) <;> rfl
theorem SCells.moved_n (r : SCells) : r.moved.n = r.n := by unfold SCells.moved; (repeat' split) <;> rfl
theorem SCells.moved_fits {r : SCells} (h : r.Fits) : r.moved.Fits := ⟨by rw [r.moved_src]; exact h.src, by rw [r.moved_late]; exact h.late⟩
theorem SCells.setSrc_fits {r : SCells} (h : r.Fits) (j : Nat) (s : SSrc) (hs : -2305843009213693952 ≤ s.time ∧ s.time ≤ 2305843009213693952) : (r.setSrc j s).Fits :=
  ⟨fun x hx => by
    rcases List.mem_or_eq_of_mem_set hx with h1 | h1
    · exact h.src x h1
    · rw [h1]; exact hs, h.late⟩

theorem moveLine_nil (g : Nat) (r : SCells) (w : World) (h : SF w g r) (hg : r.going = .slice none 0 0) (hf : r.Fits) :
    Calls Try.prog 19 #[.pointer (some ⟨g, 0, none⟩)] w fun e w' => e = .returned (.tuple #[]) ∧ SF w' g r.moved ∧ Kept (fun k => k = g) w w' := by
  refine moveLine_of g r w h (fun k => k = g) rfl (fun w' => SF w' g r.moved ∧ Kept (fun k => k = g) w w') (fun w' h1 h2 h3 => ⟨?_, h2⟩) hf.wrap (fun W h1 h2 _ => ?_)
  · have : r.moved = r := by rw [SCells.moved, h3]; rfl
    rw [this]; exact h1
  · refine (endRuns_nil g r.moved W h1 (by rw [r.moved_going]; exact hg)).mono ?_
    rintro e w' ⟨rfl, h3, h4⟩
    exact ⟨rfl, h3, h2.trans h4⟩

def clampT (t : Int) : Int := if 2305843009213693952 < if t < -2305843009213693952 then -2305843009213693952 else t then 2305843009213693952 else if t < -2305843009213693952 then -2305843009213693952 else t
def SSrc.raised (s : SSrc) (x : Int) : SSrc := if s.is = false ∨ s.time < x then ⟨s.opened, s.broken, s.unread, x, true⟩ else s
def SCells.addMark (r : SCells) : SCells := { r with n := { r.n with marks := wrap64 (r.n.marks + 1) } }
def SCells.addBroken (r : SCells) : SCells := { r with n := { r.n with broken := wrap64 (r.n.broken + 1) } }

theorem clampT_fits (t : Int) : -2305843009213693952 ≤ clampT t ∧ clampT t ≤ 2305843009213693952 := by unfold clampT; (repeat' split) <;> omega

set_option maxRecDepth 20000 in
set_option maxHeartbeats 1600000 in
theorem do_mark (g n : Nat) (r : SCells) (s : SSrc) (key : ByteArray) (t v : Int) (tag : Int) (w : World) (h : SF w g r) (hs : r.src[n]? = some s) (hg : r.going = .slice none 0 0) (hf : r.Fits) :
    Calls Try.prog 27 #[.pointer (some ⟨g, 0, none⟩), .pointer (some ⟨g, 6 + n * 5, none⟩), itemV 2 key t v tag] w fun e w' => e = .returned (.tuple #[]) ∧ SF w' g (r.addMark.setSrc n (s.raised (clampT t))).moved ∧ Kept (fun k => k = g) w w' := by
  have hglt := h.lt
  have H : Hid (SF w g r) := h
  have fz : ∀ j, w.frozen? ⟨g, j, none⟩ = false := h.frozen
  clear h
  unfold itemV
  have hn : n < r.src.length := (List.getElem?_eq_some_iff.1 hs).1
  have hr : (r.addMark.setSrc n (s.raised (clampT t))).Fits → (r.addMark.setSrc n (s.raised (clampT t))).going = .slice none 0 0 → ∀ W, SF W g (r.addMark.setSrc n (s.raised (clampT t))) → Calls Try.prog 19 #[.pointer (some ⟨g, 0, none⟩)] W fun e w' => e = .returned (.tuple #[]) ∧ SF w' g (r.addMark.setSrc n (s.raised (clampT t))).moved ∧ Kept (fun k => k = g) W w' := fun h1 h2 W h3 => moveLine_nil g _ W h3 h2 h1
  have hfs : -2305843009213693952 ≤ (s.raised (clampT t)).time ∧ (s.raised (clampT t)).time ≤ 2305843009213693952 := by
    unfold SSrc.raised
    split
    · exact clampT_fits t
    · exact hf.src s (List.mem_of_getElem? hs)
  have HR : Hid (∀ W, SF W g (r.addMark.setSrc n (s.raised (clampT t))) → Calls Try.prog 19 #[.pointer (some ⟨g, 0, none⟩)] W fun e w' => e = .returned (.tuple #[]) ∧ SF w' g (r.addMark.setSrc n (s.raised (clampT t))).moved ∧ Kept (fun k => k = g) W w') :=
    hr (SCells.setSrc_fits (r := r.addMark) ⟨hf.src, hf.late⟩ n _ hfs) hg
  clear hr hfs hf
  have hBg : ¬ w.heap.size = g := by omega
  have hgB : ¬ g = w.heap.size := by omega
  go_enter Try.func27, Try.ntmps27
  go_wp2_with fail
  have d2 : (w.alloc (.cells #[.int .i64 2, .string key, .int .i64 t, .int .i64 v, .int .u32 tag] 69)).cell? ⟨w.heap.size, 2, none⟩ = some (.int .i64 t) := by simp
  have H1 : Hid (SF (w.alloc (.cells #[.int .i64 2, .string key, .int .i64 t, .int .i64 v, .int .u32 tag] 69)) g r) := H.out.congr (Below.heap_alloc _ _ _ hglt)
  have K1 : Hid (Kept (fun k => k = g) w (w.alloc (.cells #[.int .i64 2, .string key, .int .i64 t, .int .i64 v, .int .u32 tag] 69))) := (Kept.refl _ w).alloc _
  generalize w.alloc (.cells #[.int .i64 2, .string key, .int .i64 t, .int .i64 v, .int .u32 tag] 69) = W1 at *
  generalize hB : w.heap.size = B at *
  clear hB
  refine (add_any g 54 r.n.marks 1 W1 (H1.out.tailAt 8 rfl) (H1.out.frozen _)).mono ?_
  rintro e W2 ⟨rfl, rfl⟩
  have H2 : Hid (SF (W1.setCell ⟨g, 54, none⟩ (.int .i64 (wrap64 (r.n.marks + 1)))) g r.addMark) := H1.out.putTail 8 _ rfl rfl rfl
  have K2 : Hid (Kept (fun k => k = g) w (W1.setCell ⟨g, 54, none⟩ (.int .i64 (wrap64 (r.n.marks + 1))))) := K1.out.setCell ⟨g, 54, none⟩ _ (fun _ => rfl)
  have e2 : (W1.setCell ⟨g, 54, none⟩ (.int .i64 (wrap64 (r.n.marks + 1)))).cell? ⟨B, 2, none⟩ = some (.int .i64 t) := by rw [World.cell?_setCell_far _ _ _ _ (by simpa using hgB)]; exact d2
  generalize W1.setCell ⟨g, 54, none⟩ (.int .i64 (wrap64 (r.n.marks + 1))) = W2 at *
  clear d2 fz
  go_wp2_with fail
  refine wp_region_still_tail 7 (by kernel_rfl) (by kernel_rfl) ?_
  simp only [List.take_succ_cons, List.take_zero, List.drop_succ_cons, List.drop_zero]
  change wpStill Try.prog _ W2.drew (fun a' => wpList Try.prog _ _ _ a' W2.drew) _ _
  have e2 : W2.drew.cell? ⟨B, 2, none⟩ = some (.int .i64 t) := e2
  have H3 : Hid (SF W2.drew g r.addMark) := H2.out.congr rfl
  have K3 : Hid (Kept (fun k => k = g) w W2.drew) := K2.out.drew
  generalize W2.drew = W3 at *
  repeat still_step
  refine wpStill_nil ?_
  have hcl : (if 2305843009213693952 < if t < -2305843009213693952 then -2305843009213693952 else t then 2305843009213693952 else if t < -2305843009213693952 then -2305843009213693952 else t) = clampT t := rfl
  rw [hcl]
  clear hcl
  generalize (if t < -2305843009213693952 then -2305843009213693952 else t) = T0
  obtain ⟨T, HT⟩ : ∃ T, Hid (clampT t = T) := ⟨_, rfl⟩
  rw [HT.out]
  rw [HT.out] at HR
  have c3 : W3.cell? ⟨g, 6 + n * 5 + 3, none⟩ = some (.int .i64 s.time) := H3.out.cell (r.addMark.srcAt n 3 s hs (by omega))
  have c4 : W3.cell? ⟨g, 6 + n * 5 + 3 + 1, none⟩ = some (.bool s.is) := H3.out.cell (r.addMark.srcAt n 4 s hs (by omega))
  by_cases hup : s.is = false ∨ s.time < T
  · have HQ : Hid (Calls Try.prog 33 #[.pointer (some ⟨g, 6 + n * 5 + 3, none⟩), .int .i64 T] W3 fun e w' => e = .returned (.tuple #[]) ∧ w' = (W3.setCell ⟨g, 6 + n * 5 + 3, none⟩ (.int .i64 T)).setCell ⟨g, 6 + n * 5 + 3 + 1, none⟩ (.bool true)) := raise_yes g _ s.time T s.is W3 c3 c4 H3.out.frozen hup
    have HS : Hid (s.raised T = ⟨s.opened, s.broken, s.unread, T, true⟩) := by show _ = _; rw [SSrc.raised, if_pos hup]
    clear c3 c4 e2
    go_wp2_with fail
    refine HQ.out.mono ?_
    rintro e W4 ⟨rfl, rfl⟩
    have H4 : Hid (SF ((W3.setCell ⟨g, 6 + n * 5 + 3, none⟩ (.int .i64 T)).setCell ⟨g, 6 + n * 5 + 3 + 1, none⟩ (.bool true)) g (r.addMark.setSrc n (s.raised T))) := by show SF _ _ _; rw [HS.out]; exact H3.out.putMoment n s T true hs
    have K4 : Hid (Kept (fun k => k = g) w ((W3.setCell ⟨g, 6 + n * 5 + 3, none⟩ (.int .i64 T)).setCell ⟨g, 6 + n * 5 + 3 + 1, none⟩ (.bool true))) := (K3.out.setCell ⟨g, _, none⟩ _ (fun _ => rfl)).setCell ⟨g, _, none⟩ _ (fun _ => rfl)
    generalize (W3.setCell ⟨g, 6 + n * 5 + 3, none⟩ (.int .i64 T)).setCell ⟨g, 6 + n * 5 + 3 + 1, none⟩ (.bool true) = W5 at *
    go_wp2_with fail
    refine (HR.out W5 H4.out).mono ?_
    rintro e W6 ⟨rfl, h6, k6⟩
    have H6 : Hid _ := h6
    have K6 : Hid (Kept (fun k => k = g) w W6) := K4.out.trans k6
    clear h6 k6
    go_wp2
    go_end0
    exact ⟨rfl, by rw [HT.out]; exact H6.out, K6.out⟩
  · have hsi : s.is = true := by cases h : s.is <;> simp [h] at hup ⊢
    have HQ : Hid (Calls Try.prog 33 #[.pointer (some ⟨g, 6 + n * 5 + 3, none⟩), .int .i64 T] W3 fun e w' => e = .returned (.tuple #[]) ∧ w' = W3) := raise_no g _ s.time T W3 c3 (by rw [c4, hsi]) (fun h => hup (.inr h))
    have HS : Hid (r.addMark.setSrc n (s.raised T) = r.addMark) := by
      show _ = _
      rw [SSrc.raised, if_neg hup, SCells.setSrc]
      have : r.addMark.src.set n s = r.addMark.src := List.ext_getElem? (fun i => by
        rw [List.getElem?_set]
        split
        · rename_i h; subst h
          rw [if_pos (show n < r.addMark.src.length from hn)]; exact hs.symm
        · rfl)
      rw [this]
    have H4 : Hid (SF W3 g (r.addMark.setSrc n (s.raised T))) := by show SF _ _ _; rw [HS.out]; exact H3.out
    clear c3 c4 e2
    go_wp2_with fail
    refine HQ.out.mono ?_
    rintro e W4 ⟨rfl, rfl⟩
    go_wp2_with fail
    refine (HR.out _ H4.out).mono ?_
    rintro e W6 ⟨rfl, h6, k6⟩
    have H6 : Hid _ := h6
    have K6 : Hid (Kept (fun k => k = g) w W6) := K3.out.trans k6
    clear h6 k6
    go_wp2
    go_end0
    exact ⟨rfl, by rw [HT.out]; exact H6.out, K6.out⟩

set_option maxRecDepth 20000 in
set_option maxHeartbeats 1600000 in
theorem breakOff_nil (g n : Nat) (r : SCells) (s : SSrc) (w : World) (h : SF w g r) (hs : r.src[n]? = some s) (hg : r.going = .slice none 0 0) (hf : r.Fits) :
    Calls Try.prog 26 #[.pointer (some ⟨g, 0, none⟩), .pointer (some ⟨g, 6 + n * 5, none⟩)] w fun e w' => e = .returned (.tuple #[]) ∧ SF w' g (r.setSrc n ⟨true, true, .slice none 0 0, 0, false⟩).addBroken.moved ∧ Kept (fun k => k = g) w w' := by
  have HR : Hid (∀ W, SF W g (r.setSrc n ⟨true, true, .slice none 0 0, 0, false⟩).addBroken → Calls Try.prog 19 #[.pointer (some ⟨g, 0, none⟩)] W fun e w' => e = .returned (.tuple #[]) ∧ SF w' g (r.setSrc n ⟨true, true, .slice none 0 0, 0, false⟩).addBroken.moved ∧ Kept (fun k => k = g) W w') := fun W h3 =>
    moveLine_nil g _ W h3 hg (by have := SCells.setSrc_fits hf n ⟨true, true, .slice none 0 0, 0, false⟩ (by simp); exact ⟨this.src, this.late⟩)
  have c0 : w.cell? ⟨g, 6 + n * 5, none⟩ = some (.bool s.opened) := h.cell (r.srcAt n 0 s hs (by omega))
  have c1 : w.cell? ⟨g, 6 + n * 5 + 1, none⟩ = some (.bool s.broken) := h.cell (r.srcAt n 1 s hs (by omega))
  have c2 : w.cell? ⟨g, 6 + n * 5 + 2, none⟩ = some s.unread := h.cell (r.srcAt n 2 s hs (by omega))
  have c3 : w.cell? ⟨g, 6 + n * 5 + 3, none⟩ = some (.int .i64 s.time) := h.cell (r.srcAt n 3 s hs (by omega))
  have c4 : w.cell? ⟨g, 6 + n * 5 + 4, none⟩ = some (.bool s.is) := h.cell (r.srcAt n 4 s hs (by omega))
  have fz : ∀ j, w.frozen? ⟨g, j, none⟩ = false := h.frozen
  have H1 : Hid (SF (((((w.setCell ⟨g, 6 + n * 5, none⟩ (.bool true)).setCell ⟨g, 6 + n * 5 + 1, none⟩ (.bool true)).setCell ⟨g, 6 + n * 5 + 2, none⟩ (.slice none 0 0)).setCell ⟨g, 6 + n * 5 + 3, none⟩ (.int .i64 0)).setCell ⟨g, 6 + n * 5 + 4, none⟩ (.bool false)) g (r.setSrc n ⟨true, true, .slice none 0 0, 0, false⟩)) := h.putAll n s true true (.slice none 0 0) 0 false hs
  have K1 : Hid (Kept (fun k => k = g) w (((((w.setCell ⟨g, 6 + n * 5, none⟩ (.bool true)).setCell ⟨g, 6 + n * 5 + 1, none⟩ (.bool true)).setCell ⟨g, 6 + n * 5 + 2, none⟩ (.slice none 0 0)).setCell ⟨g, 6 + n * 5 + 3, none⟩ (.int .i64 0)).setCell ⟨g, 6 + n * 5 + 4, none⟩ (.bool false))) := by
    refine Kept.setCell ?_ ⟨g, _, none⟩ _ (fun _ => rfl)
    refine Kept.setCell ?_ ⟨g, _, none⟩ _ (fun _ => rfl)
    refine Kept.setCell ?_ ⟨g, _, none⟩ _ (fun _ => rfl)
    refine Kept.setCell ?_ ⟨g, _, none⟩ _ (fun _ => rfl)
    refine Kept.setCell ?_ ⟨g, _, none⟩ _ (fun _ => rfl)
    exact Kept.refl _ w
  clear h
  go_enter Try.func26, Try.ntmps26
  go_wp2_with fail
  generalize ((((w.setCell ⟨g, 6 + n * 5, none⟩ (.bool true)).setCell ⟨g, 6 + n * 5 + 1, none⟩ (.bool true)).setCell ⟨g, 6 + n * 5 + 2, none⟩ (.slice none 0 0)).setCell ⟨g, 6 + n * 5 + 3, none⟩ (.int .i64 0)).setCell ⟨g, 6 + n * 5 + 4, none⟩ (.bool false) = W1 at *
  refine (add_any g 55 r.n.broken 1 W1 (H1.out.tailAt 9 rfl) (H1.out.frozen _)).mono ?_
  rintro e W2 ⟨rfl, rfl⟩
  have H2 : Hid (SF (W1.setCell ⟨g, 55, none⟩ (.int .i64 (wrap64 (r.n.broken + 1)))) g (r.setSrc n ⟨true, true, .slice none 0 0, 0, false⟩).addBroken) := H1.out.putTail 9 _ rfl rfl rfl
  have K2 : Hid (Kept (fun k => k = g) w (W1.setCell ⟨g, 55, none⟩ (.int .i64 (wrap64 (r.n.broken + 1))))) := K1.out.setCell ⟨g, 55, none⟩ _ (fun _ => rfl)
  generalize W1.setCell ⟨g, 55, none⟩ (.int .i64 (wrap64 (r.n.broken + 1))) = W2 at *
  clear c0 c1 c2 c3 c4 fz
  go_wp2_with fail
  refine (HR.out W2 H2.out).mono ?_
  rintro e W6 ⟨rfl, h6, k6⟩
  have H6 : Hid _ := h6
  have K6 : Hid (Kept (fun k => k = g) w W6) := K2.out.trans k6
  clear h6 k6
  go_wp2
  go_end0
  exact ⟨rfl, H6.out, K6.out⟩
end Go.Proofs.Ytcfngdnmpogaoaa
