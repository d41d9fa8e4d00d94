/-
  endRuns where no key is going on; moveLine.
-/
import Derived.Test.YtcfngdnmpogaoaaSLine
import Derived.Deep.RegionHeld3
import Derived.StillTailTactics
namespace Go.Proofs.Ytcfngdnmpogaoaa
open Go.RowKit

theorem indexFunc_nil (f : Value) (w : World) :
    Calls Try.prog 67 #[.slice none 0 0, f] w fun e w' => e = .returned (.int .i64 (-1)) ∧ w' = w := by
  go_enter Try.func67, Try.ntmps67
  go_wp2
  refine wp_loop_rounds 1 ?_
  rw [rounds_succ]
  go_wp2
  go_ret
  exact ⟨rfl, rfl⟩

theorem deleteFunc_nil (f : Value) (w : World) :
    Calls Try.prog 53 #[.slice none 0 0, f] w fun e w' => e = .returned (.slice none 0 0) ∧ w' = w := by
  go_enter Try.func53, Try.ntmps53
  go_wp2_with fail
  refine (indexFunc_nil _ _).mono ?_
  rintro e w' ⟨rfl, rfl⟩
  go_wp2
  go_ret
  exact ⟨rfl, rfl⟩

set_option maxHeartbeats 1600000 in
theorem endRuns_nil (g : Nat) (r : SCells) (w : World) (h : SF w g r) (hg : r.going = .slice none 0 0) :
    Calls Try.prog 34 #[.pointer (some ⟨g, 0, none⟩)] w fun e w' => e = .returned (.tuple #[]) ∧ SF w' g r ∧ Kept (fun k => k = g) w w' := by
  have hglt := h.lt
  have H : Hid (SF w g r) := h
  have c0 : w.cell? ⟨g, 48, none⟩ = some (.slice none 0 0) := by rw [← hg]; exact h.tailAt 2 rfl
  have fz : ∀ j, w.frozen? ⟨g, j, none⟩ = false := h.frozen
  clear h
  go_enter Try.func34, Try.ntmps34
  go_wp2
  refine wp_loop_rounds 1 ?_
  rw [rounds_succ]
  go_wp2
  have HF : Hid (SF (w.alloc (.cells #[.pointer (some ⟨g, 0, none⟩)] 25)) g r) := H.out.congr (Below.heap_alloc _ _ _ hglt)
  have HK : Hid (Kept (fun k => k = g) w (w.alloc (.cells #[.pointer (some ⟨g, 0, none⟩)] 25))) := (Kept.refl _ w).alloc _
  have b0 : (w.alloc (.cells #[.pointer (some ⟨g, 0, none⟩)] 25)).cell? ⟨w.heap.size, 0, none⟩ = some (.pointer (some ⟨g, 0, none⟩)) := by simp
  have c1 : (w.alloc (.cells #[.pointer (some ⟨g, 0, none⟩)] 25)).cell? ⟨g, 48, none⟩ = some (.slice none 0 0) := by rw [← hg]; exact HF.out.tailAt 2 rfl
  have fz1 : ∀ j, (w.alloc (.cells #[.pointer (some ⟨g, 0, none⟩)] 25)).frozen? ⟨g, j, none⟩ = false := HF.out.frozen
  have hgB : ¬ g = w.heap.size := by omega
  have hBg : ¬ w.heap.size = g := by omega
  generalize w.alloc (.cells #[.pointer (some ⟨g, 0, none⟩)] 25) = W1 at *
  generalize w.heap.size = B at *
  clear c0 fz
  go_region_held3 (fun W => W.cell? ⟨B, 0, none⟩ = some (.pointer (some ⟨g, 0, none⟩)) ∧ W.cell? ⟨g, 48, none⟩ = some (.slice none 0 0)) (first | (refine ⟨?_, ?_⟩; go_keep; (first | (rw [World.cell?_drew]; exact World.cell?_setCell_same' _ _ _ (by simp [c1])) | go_keep))) (first | (go_at_call 53; refine (deleteFunc_nil _ _).mono ?_; rintro e w' ⟨rfl, rfl⟩))
  go_end0
  refine ⟨rfl, (HF.out.putTail (r' := r) 2 (.slice none 0 0) rfl rfl (by rw [SCells.tail, hg]; rfl)).congr rfl, ((HK.out.setCell ⟨g, 48, none⟩ _ (fun _ => rfl))).drew⟩

/-- The line, raised to the least moment less Late. -/
def SCells.moved (r : SCells) : SCells :=
  if (leastF r.src).2 then (if r.li = false ∨ r.lt < (leastF r.src).1 - r.late then r.setLine ((leastF r.src).1 - r.late) true else r) else r

set_option maxRecDepth 20000 in
set_option maxHeartbeats 1600000 in
/-- moveLine, over what endRuns does. -/
theorem moveLine_of (g : Nat) (r : SCells) (w : World) (h : SF w g r) (X : Nat → Prop) (hX : X g) (Q : World → Prop) (hQ : ∀ w', SF w' g r → Kept X w w' → (leastF r.src).2 = false → Q w')
    (hl : IntKind.i64.wrap ((leastF r.src).1 - r.late) = (leastF r.src).1 - r.late)
    (he : ∀ W, SF W g r.moved → Kept X w W → (leastF r.src).2 = true → Calls Try.prog 34 #[.pointer (some ⟨g, 0, none⟩)] W fun e w' => e = .returned (.tuple #[]) ∧ Q w') :
    Calls Try.prog 19 #[.pointer (some ⟨g, 0, none⟩)] w fun e w' => e = .returned (.tuple #[]) ∧ Q w' := by
  have H : Hid (SF w g r) := h
  have hglt := h.lt
  have HE : Hid (∀ W, SF W g r.moved → Kept X w W → (leastF r.src).2 = true → Calls Try.prog 34 #[.pointer (some ⟨g, 0, none⟩)] W fun e w' => e = .returned (.tuple #[]) ∧ Q w') := he
  have HQ : Hid (∀ w', SF w' g r → Kept X w w' → (leastF r.src).2 = false → Q w') := hQ
  have HL := leastLatest_any g r
  have HM : Hid (r.moved = if (leastF r.src).2 then (if r.li = false ∨ r.lt < (leastF r.src).1 - r.late then r.setLine ((leastF r.src).1 - r.late) true else r) else r) := rfl
  obtain ⟨mt, hmt⟩ : ∃ mt, (leastF r.src).1 = mt := ⟨_, rfl⟩
  obtain ⟨mi, hmi⟩ : ∃ mi, (leastF r.src).2 = mi := ⟨_, rfl⟩
  rw [hmt, hmi] at HM HL
  rw [hmi] at HE HQ
  rw [hmt] at hl
  have Hll := hl
  clear hmt hmi h he hQ
  go_enter Try.func19, Try.ntmps19
  go_wp2_with fail
  refine (HL _ H.out).mono ?_
  rintro e W ⟨rfl, hb⟩
  have h1 := H.out.below hb hglt
  have K1 : Hid (Kept X w W) := Kept.ofBelow hb X
  have H1 : Hid (SF W g r) := h1
  clear hb HL
  have hglt1 := h1.lt
  cases mi with
  | false =>
    clear h1
    go_wp2
    refine bodyPost_ret (results_none rfl _ _ _) rfl ?_
    exact ⟨rfl, HQ.out _ (H1.out.congr (Below.heap_alloc _ _ _ hglt1)) (K1.out.alloc _) trivial⟩
  | true =>
    clear h1
    go_wp2
    have d0 : (W.alloc (.cells #[.int .i64 mt, .bool true] 48)).cell? ⟨W.heap.size, 0, none⟩ = some (.int .i64 mt) := by simp
    have H2 : Hid (SF (W.alloc (.cells #[.int .i64 mt, .bool true] 48)) g r) := H1.out.congr (Below.heap_alloc _ _ _ hglt1)
    have K2 : Hid (Kept X w (W.alloc (.cells #[.int .i64 mt, .bool true] 48))) := K1.out.alloc _
    generalize W.alloc (.cells #[.int .i64 mt, .bool true] 48) = W2 at *
    refine wp_region_still_tail 11 (by kernel_rfl) (by kernel_rfl) ?_
    simp only [List.take_succ_cons, List.take_zero, List.drop_succ_cons, List.drop_zero]
    change wpStill Try.prog _ W2.drew (fun a' => wpList Try.prog _ _ _ a' W2.drew) _ _
    have d0 : W2.drew.cell? ⟨W.heap.size, 0, none⟩ = some (.int .i64 mt) := d0
    have H3 : Hid (SF W2.drew g r) := H2.out.congr rfl
    have K3 : Hid (Kept X w W2.drew) := K2.out.drew
    generalize W2.drew = W3 at *
    have c4 : W3.cell? ⟨g, 4, none⟩ = some (.int .i64 r.late) := H3.out.headAt 4 rfl
    repeat still_step
    refine wpStill_nil ?_
    have c46 : W3.cell? ⟨g, 46, none⟩ = some (.int .i64 r.lt) := H3.out.tailAt 0 rfl
    have c47 : W3.cell? ⟨g, 47, none⟩ = some (.bool r.li) := H3.out.tailAt 1 rfl
    have fz : ∀ j, W3.frozen? ⟨g, j, none⟩ = false := H3.out.frozen
    by_cases hup : r.li = false ∨ r.lt < mt - r.late
    · have HR : Hid (Calls Try.prog 33 #[.pointer (some ⟨g, 46, none⟩), .int .i64 (mt - r.late)] W3 fun e w' => e = .returned (.tuple #[]) ∧ w' = (W3.setCell ⟨g, 46, none⟩ (.int .i64 (mt - r.late))).setCell ⟨g, 47, none⟩ (.bool true)) := raise_yes g 46 r.lt (mt - r.late) r.li W3 c46 c47 fz hup
      have HM' : Hid (r.moved = r.setLine (mt - r.late) true) := by show _ = _; rw [HM.out]; simp [hup]
      clear c46 c47 fz c4 d0 hup
      go_wp2_with fail
      refine HR.out.mono ?_
      rintro e W4 ⟨rfl, rfl⟩
      have H4 : Hid (SF ((W3.setCell ⟨g, 46, none⟩ (.int .i64 (mt - r.late))).setCell ⟨g, 47, none⟩ (.bool true)) g r.moved) := by show SF _ _ _; rw [HM'.out]; exact H3.out.putLine _ _
      have K4 : Hid (Kept X w ((W3.setCell ⟨g, 46, none⟩ (.int .i64 (mt - r.late))).setCell ⟨g, 47, none⟩ (.bool true))) := (K3.out.setCell ⟨g, 46, none⟩ _ (fun _ => hX)).setCell ⟨g, 47, none⟩ _ (fun _ => hX)
      generalize (W3.setCell ⟨g, 46, none⟩ (.int .i64 (mt - r.late))).setCell ⟨g, 47, none⟩ (.bool true) = W5 at *
      go_wp2_with fail
      refine (HE.out W5 H4.out K4.out trivial).mono ?_
      rintro e W6 ⟨rfl, hq⟩
      go_wp2
      go_end0
      exact ⟨rfl, hq⟩
    · have hli : r.li = true := by cases h : r.li <;> simp [h] at hup ⊢
      have HR : Hid (Calls Try.prog 33 #[.pointer (some ⟨g, 46, none⟩), .int .i64 (mt - r.late)] W3 fun e w' => e = .returned (.tuple #[]) ∧ w' = W3) := raise_no g 46 r.lt (mt - r.late) W3 c46 (by rw [c47, hli]) (fun h => hup (.inr h))
      have HM' : Hid (r.moved = r) := by show _ = _; rw [HM.out]; simp [hup]
      have H4 : Hid (SF W3 g r.moved) := by show SF _ _ _; rw [HM'.out]; exact H3.out
      clear c46 c47 fz c4 d0 hup
      go_wp2_with fail
      refine HR.out.mono ?_
      rintro e W4 ⟨rfl, rfl⟩
      go_wp2_with fail
      refine (HE.out _ H4.out K3.out trivial).mono ?_
      rintro e W6 ⟨rfl, hq⟩
      go_wp2
      go_end0
      exact ⟨rfl, hq⟩
end Go.Proofs.Ytcfngdnmpogaoaa
