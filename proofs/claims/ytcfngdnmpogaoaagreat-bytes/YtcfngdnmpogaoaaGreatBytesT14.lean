import Derived.Test.YtcfngdnmpogaoaaGreatBytesT12
import Derived.Test.YtcfngdnmpogaoaaGreatBytesT13
import Derived.Maps.RangeWalk
import Derived.Maps.OwnSet
import Derived.RangeFuncNested
import Derived.RangeFuncBound
import Derived.RangeFuncCalls
import Derived.RangeFuncLeaves
import Derived.Shelf.Abstract
import Derived.Shelf.RegionOpen
import Derived.WalkKit
import Derived.OwnWalkIn
import Derived.TacticsInMore
import Derived.LoopNIn
import Derived.LoopIn
import Derived.Maps.OwnIn
import Derived.Sort.MapsRangeIn
import Derived.RangeFuncStops
import Derived.RangeFuncBox
import Derived.RangeFuncFrom
import Derived.Maps.AppendAt

/-
  The parts: the total.
-/
namespace Go.Proofs.YtcfngdnmpogaoaaGreat
open Go.RowKit Go.MuLone

set_option maxRecDepth 20000 in
set_option maxHeartbeats 1600000 in
theorem total_enter (T P M : Nat) (c s : Int) (first last count sum least greatest : Int) (w : World) (hT : w.heap[T]? = some (.cells #[.int .i64 c, .int .i64 s] 214 (0, 0)))
    (hp : w.heap[P]? = some (.cells (paneCells first last count sum least greatest M) 207 (0, 0))) (hTP : P ≠ T) :
    Calls Tryz.prog 207 #[.pointer (some ⟨T, 0, none⟩), .pointer (some ⟨P, 0, none⟩)] w fun e w' => e = .returned (.tuple #[]) ∧ w'.heap[T]? = some (.cells #[.int .i64 (wrap64 (c + count)), .int .i64 (wrap64 (s + sum))] 214 (0, 0)) ∧ Kept (fun k => k = T) w w' := by
  have e1 : IntKind.i64.wrap (c + count) = wrap64 (c + count) := IntWalk.i64_left _
  have e2 : IntKind.i64.wrap (s + sum) = wrap64 (s + sum) := IntWalk.i64_left _
  obtain ⟨C, HC⟩ : ∃ C, Hid (wrap64 (c + count) = C) := ⟨_, rfl⟩
  obtain ⟨S, HS⟩ : ∃ S, Hid (wrap64 (s + sum) = S) := ⟨_, rfl⟩
  rw [HC.out] at e1 ⊢
  rw [HS.out] at e2 ⊢
  go_enter Tryz.func207, Tryz.ntmps207
  go_upto_region 0 with fail
  refine wp_region_still_tail 11 (by kernel_rfl) (by kernel_rfl) ?_
  simp only [List.take_succ_cons, List.take_zero, List.drop_succ_cons, List.drop_zero]
  change wpStill Tryz.prog _ w.drew (fun a' => wpList Tryz.prog _ _ _ a' w.drew) _ _
  have hT1 : w.drew.heap[T]? = some (.cells #[.int .i64 c, .int .i64 s] 214 (0, 0)) := hT
  have hp1 : w.drew.heap[P]? = some (.cells (paneCells first last count sum least greatest M) 207 (0, 0)) := hp
  have K1 : Hid (Kept (fun k => k = T) w w.drew) := (Kept.refl _ w).drew
  generalize w.drew = W1 at *
  obtain ⟨x0, x1, xf, -⟩ := cells2At hT1
  obtain ⟨-, -, c2, c3, -, -, -, -⟩ := paneAt hp1
  repeat still_step
  refine wpStill_nil ?_
  go_wp2
  have hT2 : (W1.setCell ⟨T, 0, none⟩ (.int .i64 C)).heap[T]? = some (.cells #[.int .i64 C, .int .i64 s] 214 (0, 0)) := blkPut hT1 0 _
  have hp2 := blkOther hp1 T 0 (.int .i64 C) hTP
  have K2 : Hid (Kept (fun k => k = T) w (W1.setCell ⟨T, 0, none⟩ (.int .i64 C))) := K1.out.setCell ⟨T, 0, none⟩ _ (fun _ => rfl)
  clear x0 x1 xf c2 c3 hT1 hp1
  generalize W1.setCell ⟨T, 0, none⟩ (.int .i64 C) = W2 at *
  go_upto_region 1 with fail
  refine wp_region_still_tail 11 (by kernel_rfl) (by kernel_rfl) ?_
  simp only [List.take_succ_cons, List.take_zero, List.drop_succ_cons, List.drop_zero]
  change wpStill Tryz.prog _ W2.drew (fun a' => wpList Tryz.prog _ _ _ a' W2.drew) _ _
  have hT3 : W2.drew.heap[T]? = some (.cells #[.int .i64 C, .int .i64 s] 214 (0, 0)) := hT2
  have hp3 : W2.drew.heap[P]? = some (.cells (paneCells first last count sum least greatest M) 207 (0, 0)) := hp2
  have K3 : Hid (Kept (fun k => k = T) w W2.drew) := K2.out.drew
  generalize W2.drew = W3 at *
  obtain ⟨x0, x1, xf, -⟩ := cells2At hT3
  obtain ⟨-, -, c2, c3, -, -, -, -⟩ := paneAt hp3
  repeat still_step
  refine wpStill_nil ?_
  go_wp2
  go_end0
  exact ⟨rfl, blkPut hT3 1 _, K3.out.setCell ⟨T, 1, none⟩ _ (fun _ => rfl)⟩
end Go.Proofs.YtcfngdnmpogaoaaGreat

/-
  The parts: a pane enters the bounds; a pane leaves the total and the bounds.
-/
namespace Go.Proofs.YtcfngdnmpogaoaaGreat
open Go.RowKit Go.MuLone

set_option maxRecDepth 20000 in
set_option maxHeartbeats 1600000 in
theorem total_leave (T P M : Nat) (c s : Int) (first last count sum least greatest : Int) (w : World) (hT : w.heap[T]? = some (.cells #[.int .i64 c, .int .i64 s] 214 (0, 0)))
    (hp : w.heap[P]? = some (.cells (paneCells first last count sum least greatest M) 207 (0, 0))) (hTP : P ≠ T) :
    Calls Tryz.prog 208 #[.pointer (some ⟨T, 0, none⟩), .pointer (some ⟨P, 0, none⟩)] w fun e w' => e = .returned (.tuple #[]) ∧ w'.heap[T]? = some (.cells #[.int .i64 (wrap64 (c - count)), .int .i64 (wrap64 (s - sum))] 214 (0, 0)) ∧ Kept (fun k => k = T) w w' := by
  have e1 : IntKind.i64.wrap (c - count) = wrap64 (c - count) := IntWalk.i64_left _
  have e2 : IntKind.i64.wrap (s - sum) = wrap64 (s - sum) := IntWalk.i64_left _
  obtain ⟨C, HC⟩ : ∃ C, Hid (wrap64 (c - count) = C) := ⟨_, rfl⟩
  obtain ⟨S, HS⟩ : ∃ S, Hid (wrap64 (s - sum) = S) := ⟨_, rfl⟩
  rw [HC.out] at e1 ⊢
  rw [HS.out] at e2 ⊢
  go_enter Tryz.func208, Tryz.ntmps208
  go_upto_region 0 with fail
  refine wp_region_still_tail 11 (by kernel_rfl) (by kernel_rfl) ?_
  simp only [List.take_succ_cons, List.take_zero, List.drop_succ_cons, List.drop_zero]
  change wpStill Tryz.prog _ w.drew (fun a' => wpList Tryz.prog _ _ _ a' w.drew) _ _
  have hT1 : w.drew.heap[T]? = some (.cells #[.int .i64 c, .int .i64 s] 214 (0, 0)) := hT
  have hp1 : w.drew.heap[P]? = some (.cells (paneCells first last count sum least greatest M) 207 (0, 0)) := hp
  have K1 : Hid (Kept (fun k => k = T) w w.drew) := (Kept.refl _ w).drew
  generalize w.drew = W1 at *
  obtain ⟨x0, x1, xf, -⟩ := cells2At hT1
  obtain ⟨-, -, c2, c3, -, -, -, -⟩ := paneAt hp1
  repeat still_step
  refine wpStill_nil ?_
  go_wp2
  have hT2 : (W1.setCell ⟨T, 0, none⟩ (.int .i64 C)).heap[T]? = some (.cells #[.int .i64 C, .int .i64 s] 214 (0, 0)) := blkPut hT1 0 _
  have hp2 := blkOther hp1 T 0 (.int .i64 C) hTP
  have K2 : Hid (Kept (fun k => k = T) w (W1.setCell ⟨T, 0, none⟩ (.int .i64 C))) := K1.out.setCell ⟨T, 0, none⟩ _ (fun _ => rfl)
  clear x0 x1 xf c2 c3 hT1 hp1
  generalize W1.setCell ⟨T, 0, none⟩ (.int .i64 C) = W2 at *
  go_upto_region 1 with fail
  refine wp_region_still_tail 11 (by kernel_rfl) (by kernel_rfl) ?_
  simp only [List.take_succ_cons, List.take_zero, List.drop_succ_cons, List.drop_zero]
  change wpStill Tryz.prog _ W2.drew (fun a' => wpList Tryz.prog _ _ _ a' W2.drew) _ _
  have hT3 : W2.drew.heap[T]? = some (.cells #[.int .i64 C, .int .i64 s] 214 (0, 0)) := hT2
  have hp3 : W2.drew.heap[P]? = some (.cells (paneCells first last count sum least greatest M) 207 (0, 0)) := hp2
  have K3 : Hid (Kept (fun k => k = T) w W2.drew) := K2.out.drew
  generalize W2.drew = W3 at *
  obtain ⟨x0, x1, xf, -⟩ := cells2At hT3
  obtain ⟨-, -, c2, c3, -, -, -, -⟩ := paneAt hp3
  repeat still_step
  refine wpStill_nil ?_
  go_wp2
  go_end0
  exact ⟨rfl, blkPut hT3 1 _, K3.out.setCell ⟨T, 1, none⟩ _ (fun _ => rfl)⟩

set_option maxRecDepth 20000 in
set_option maxHeartbeats 1600000 in
theorem bounds_enter (Bd P M : Nat) (first last count sum least greatest : Int) (w : World) (hB : w.heap[Bd]? = some (.cells #[.slice none 0 0, .slice none 0 0] 240 (0, 0)))
    (hp : w.heap[P]? = some (.cells (paneCells first last count sum least greatest M) 207 (0, 0))) :
    Calls Tryz.prog 209 #[.pointer (some ⟨Bd, 0, none⟩), .pointer (some ⟨P, 0, none⟩)] w fun e w' => e = .returned (.tuple #[]) ∧ ∃ g o c, w'.heap[Bd]? = some (.cells #[.slice (some ⟨g, o, none⟩) 1 c, .slice none 0 0] 240 (0, 0)) ∧ w.heap.size ≤ g ∧ Row w' 261 4 (.slice (some ⟨g, o, none⟩) 1 c) [.int .i64 least, .int .i64 greatest, .int .i64 (minV 9223372036854775807 least), .int .i64 (maxV (-9223372036854775808) greatest)] ∧ Kept (fun k => k = Bd) w w' := by
  go_enter Tryz.func209, Tryz.ntmps209
  go_upto_region 0 with fail
  refine wp_region_still_tail 7 (by kernel_rfl) (by kernel_rfl) ?_
  simp only [List.take_succ_cons, List.take_zero, List.drop_succ_cons, List.drop_zero]
  change wpStill Tryz.prog _ w.drew (fun a' => wpList Tryz.prog _ _ _ a' w.drew) _ _
  have hB1 : w.drew.heap[Bd]? = some (.cells #[.slice none 0 0, .slice none 0 0] 240 (0, 0)) := hB
  have hp1 : w.drew.heap[P]? = some (.cells (paneCells first last count sum least greatest M) 207 (0, 0)) := hp
  have K1 : Hid (Kept (fun k => k = Bd) w w.drew) := (Kept.refl _ w).drew
  have hs1 : Hid (w.drew.heap.size = w.heap.size) := rfl
  generalize w.drew = W1 at *
  obtain ⟨-, -, -, -, c4, c5, -, -⟩ := paneAt hp1
  repeat still_step
  refine wpStill_nil ?_
  go_wp2_with fail
  refine (push_nil Bd 0 _ _ least greatest W1 hB1 rfl).mono ?_
  rintro e w2 ⟨rfl, g, o, c, h1, h2, h3, h4⟩
  have hsv : Hid (Row w2 261 4 (.slice (some ⟨g, o, none⟩) 1 c) [.int .i64 least, .int .i64 greatest, .int .i64 (minV 9223372036854775807 least), .int .i64 (maxV (-9223372036854775808) greatest)]) := h3
  have h1' : Hid (w2.heap[Bd]? = some (.cells #[.slice (some ⟨g, o, none⟩) 1 c, .slice none 0 0] 240 (0, 0))) := h1
  have h4' : Hid (Kept (fun k => k = Bd) w w2) := K1.out.trans h4
  clear h1 h3 h4
  go_wp2
  go_end0
  exact ⟨rfl, g, o, c, h1'.out, by rw [← hs1.out]; exact h2, hsv.out, h4'.out⟩
end Go.Proofs.YtcfngdnmpogaoaaGreat

/-
  The parts: the one pane leaves the bounds.
-/
namespace Go.Proofs.YtcfngdnmpogaoaaGreat
open Go.RowKit Go.MuLone

theorem enterPop : ∀ (vs : Array Value) (w : World), (callFunc 212 vs).run Tryz.prog w = .ok (.enter 212 vs) w := enters_of Tryz.func212 (by kernel_rfl) rfl
theorem enterPush : ∀ (vs : Array Value) (w : World), (callFunc 211 vs).run Tryz.prog w = .ok (.enter 211 vs) w := enters_of Tryz.func211 (by kernel_rfl) rfl

set_option maxRecDepth 20000 in
set_option maxHeartbeats 3200000 in
theorem bounds_leave (Bd g o c : Nat) (pv : Value) (a b : Int) (w : World) (hB : w.heap[Bd]? = some (.cells #[.slice (some ⟨g, o, none⟩) 1 c, .slice none 0 0] 240 (0, 0)))
    (hc : 1 ≤ c) (h0 : w.cell? ⟨g, o, none⟩ = some (.int .i64 a)) (h1 : w.cell? ⟨g, o + 1, none⟩ = some (.int .i64 b)) :
    Calls Tryz.prog 210 #[.pointer (some ⟨Bd, 0, none⟩), pv] w fun e w' => e = .returned (.tuple #[]) ∧ Kept (fun k => k = Bd) w w' := by
  obtain ⟨b0, b1, -, -⟩ := cells2At hB
  go_enter Tryz.func210, Tryz.ntmps210
  go_upto_region 1 with fail
  refine wp_loop_rounds 2 ?_
  rw [rounds_succ]
  go_upto_region 2 with fail
  have hB1 : w.drew.heap[Bd]? = some (.cells #[.slice (some ⟨g, o, none⟩) 1 c, .slice none 0 0] 240 (0, 0)) := hB
  go_region_law (first
    | (refine step_call1 rfl 212 _ _ rfl enterPop (.pointer (some ⟨Bd, 0, none⟩)) rfl _ (pop_one Bd 0 g o c _ _ a b _ hB1 rfl hc h0 h1) ?_; rintro e w2 ⟨rfl, hb2, hk2⟩; refine ⟨_, rfl, ?_⟩)
    | (refine step_call2 rfl 211 _ _ _ rfl enterPush (.pointer (some ⟨Bd, 1, none⟩)) (.agg #[.int .i64 a, .int .i64 b]) rfl rfl _ (push_nil Bd 1 _ _ a b w2 hb2 rfl) ?_; rintro e w3 ⟨rfl, g3, o3, c3, hb3, hg3, hr3, hk3⟩; refine ⟨_, rfl, ?_⟩))
  have hB3 : w3.heap[Bd]? = some (.cells #[.slice (some ⟨g, o, none⟩) 0 c, .slice (some ⟨g3, o3, none⟩) 1 c3] 240 (0, 0)) := hb3
  have K3 : Hid (Kept (fun k => k = Bd) w w3) := (((Kept.refl _ w).drew).trans hk2).trans hk3
  have n0 : Hid (w3.cell? ⟨g3, o3, none⟩ = some (.int .i64 a)) := hr3.cell 0 (by decide)
  have n1 : Hid (w3.cell? ⟨g3, o3 + 1, none⟩ = some (.int .i64 b)) := hr3.cell 1 (by decide)
  have hc3 : 1 ≤ c3 := by
    rcases hr3 with ⟨h, _⟩ | ⟨_, _, _, _, _, h, _, h2, _⟩
    · simp at h
    · injection h with _ h3 h4; omega
  clear hb3 hr3 hk2 hk3 hb2 hB1 b0 b1
  obtain ⟨d0, d1, -, -⟩ := cells2At hB3
  rw [show ∀ (Q : Exit → Act → World → Prop) a w, Exit.inBlock 1 Q .normal a w = Q .normal a w from fun _ _ _ => rfl]
  show Code.rounds _ _ _ _ _ _
  rw [rounds_succ]
  go_upto_region 3 with fail
  go_wp2_with fail
  refine (pop_one Bd 1 g3 o3 c3 _ _ a b _ hB3 rfl hc3 n0.out n1.out).mono ?_
  rintro e w4 ⟨rfl, -, hk4⟩
  have K4 : Hid (Kept (fun k => k = Bd) w w4) := K3.out.trans hk4
  clear hk4
  go_wp2
  go_end0
  exact ⟨rfl, K4.out⟩
end Go.Proofs.YtcfngdnmpogaoaaGreat

/-
  The parts: the tags' counts.
-/
namespace Go.Proofs.YtcfngdnmpogaoaaGreat
open Go.RowKit Go.MuLone

theorem zeroInt (w : World) : (zeroValue 3).run Tryz.prog w = .ok (.int .i64 0) w := Tryz.zeroValue3 w

/-- The tags of one pane with one tag. -/
theorem has_one {d : DataW Unit} {k kl : Lit} (h : Maps.has ((DataW.map (H := Unit) []).put k d) kl = true) : kl = k := by
  by_cases he : kl = k
  · exact he
  · rw [Maps.has_put_other he] at h
    simp [Maps.has] at h

theorem keyTag (t : Nat) (ht : t < 4294967296) : keyOf Tryz.prog 26 (.int .u32 (t : Int)) = some (.int .u32 (t : Int)) := by
  rw [keyOf, Tryz.underlying26]
  have h1 : (Lit.int .u32 (t : Int)).wf = true := by
    simp [Lit.wf, IntKind.min, IntKind.max, IntKind.signed, IntKind.bits]
    omega
  simp [mapKey, h1]

set_option maxRecDepth 20000 in
set_option maxHeartbeats 3200000 in
theorem tags_enter (TM P M tag : Nat) (first last count sum least greatest : Int) (w : World) (_ht : tag < 4294967296) (hp : w.heap[P]? = some (.cells (paneCells first last count sum least greatest M) 207 (0, 0)))
    (hM : w.ownsMap Tryz.prog 26 (unitElem (H := Unit)) M 1 ((DataW.map []).put (.int .u32 (tag : Int)) (.agg []))) (hT : w.ownsMap Tryz.prog 26 (plainElem (H := Unit) Tryz.prog 3) TM 0 (.map [])) (hMT : M ≠ TM) :
    Calls Tryz.prog 213 #[.map (some TM), .pointer (some ⟨P, 0, none⟩)] w fun e w' => e = .returned (.tuple #[]) ∧ w'.ownsMap Tryz.prog 26 (plainElem (H := Unit) Tryz.prog 3) TM 1 ((DataW.map []).put (.int .u32 (tag : Int)) (.lit (.int .i64 1))) ∧ Kept (fun k => k = TM) w w' := by
  obtain ⟨-, -, -, -, -, -, c6, -⟩ := paneAt hp
  have hTs := hT.lt
  have hMs := hM.lt
  go_enter Tryz.func213, Tryz.ntmps213
  go_wp2_with (first | (at_range; refine wpList_range_own _ rfl _ 205 rfl 26 97 keyedU Tryz.underlying205 _ M 1 _ rfl hM ?_; intro w0 hrg0 hg0 hs0))
  go_frame
  refine wp_loop_rounds 2 ?_
  rw [rounds_succ]
  go_wp2_with (first | (at_next; refine wpList_next_ranges _ rfl _ rfl 26 keyedU _ (fun x : Int => .int .u32 x) (fun _ : Unit => .agg #[]) (fun key kl h => by obtain ⟨x, h1, _⟩ := Maps.keyOf_int_inv Tryz.underlying26 h; exact ⟨x, h1⟩) (fun v y h => ⟨(), (unitElem_inv h).1⟩) M w.heap.size 1 _ _ _ rfl hrg0 ?_ ?_))
  · intro hc hl
    have := hl (.int .u32 (tag : Int))
    rw [Maps.has_put_same ⟨_, rfl⟩ (by simp [WideAt.IsKeyLit])] at this
    cases this
  · intro x c kl y w1 cnt1 hkey hlk hv hat hrg1 hlt hg1 hs1 hen
    have hkl := has_one hlk
    obtain ⟨x', hx, hx2, -⟩ := Maps.keyOf_int_inv Tryz.underlying26 hkey
    have hxt : x = (tag : Int) := by
      rw [hkl] at hx2
      injection hx with _ a1
      injection hx2 with _ a2
      omega
    subst hkl
    subst hxt
    clear hx hx2
    have hT1 := (hT.kept hg0 (by simp)).kept hg1 (by simp; omega)
    have hK1 : Hid (Kept (fun k => k = TM) w w1) := ((Kept.refl _ w).step (Kept.ofGrown hg0) (by simp)).step (Kept.ofGrown hg1) (by simp; omega)
    go_wp2_with (first
      | (at_lookup; refine wpList_lookup_own_int _ rfl _ _ 218 rfl 26 3 .i64 keyedU Tryz.underlying218 Tryz.underlying3 (zeroInt _) TM 0 _ rfl hT1 _ _ rfl hkey ?_; intro n hn hwn; have hn0 : n = 0 := (by simp only [DataW.atKey, List.find?_nil] at hn; injection hn with h1; injection h1 with _ h2; exact h2.symm); subst hn0)
      | (at_mapUpdate; refine wpList_mapUpdate_own _ rfl _ _ _ 218 rfl 26 3 keyedU Tryz.underlying218 _ TM 0 _ rfl hT1 (by decide) _ _ _ rfl rfl hkey _ [] (plainElem_int Tryz.underlying3 (by decide)) ?_; intro w2 hT2 hg2))
    have hrg2 := hrg1.kept hg2 (by simp; omega) (by simp; omega)
    have hK2 : Hid (Kept (fun k => k = TM) w w2) := hK1.out.step (Kept.ofGrown hg2) (by simp; omega)
    have hD : Hid (w2.ownsMap Tryz.prog 26 (plainElem (H := Unit) Tryz.prog 3) TM 1 ((DataW.map []).put (.int .u32 (tag : Int)) (.lit (.int .i64 1)))) := hT2
    rw [rounds_succ]
    go_frame
    go_wp2_with (first | (at_next; refine wpList_next_ranges _ rfl _ rfl 26 keyedU _ (fun x : Int => .int .u32 x) (fun _ : Unit => .agg #[]) (fun key kl h => by obtain ⟨x, h1, _⟩ := Maps.keyOf_int_inv Tryz.underlying26 h; exact ⟨x, h1⟩) (fun v y h => ⟨(), (unitElem_inv h).1⟩) M w.heap.size 1 _ _ _ rfl hrg2 ?_ ?_))
    · intro _ _
      go_wp2
      go_end0
      exact ⟨rfl, hD.out, hK2.out⟩
    · intro x kl3 a3 b3 w3 cnt3 hkey3 hlk3 hns
      exfalso
      have := has_one hlk3
      subst this
      rw [WideAt.sameKey_self (by simp [WideAt.IsKeyLit])] at hns
      cases hns

end Go.Proofs.YtcfngdnmpogaoaaGreat

/-
  The parts: the tags' counts, a pane that leaves.
-/
namespace Go.Proofs.YtcfngdnmpogaoaaGreat
open Go.RowKit Go.MuLone

set_option maxRecDepth 20000 in
set_option maxHeartbeats 3200000 in
theorem tags_leave (TM P M tag : Nat) (first last count sum least greatest : Int) (w : World) (_ht : tag < 4294967296) (hp : w.heap[P]? = some (.cells (paneCells first last count sum least greatest M) 207 (0, 0)))
    (hM : w.ownsMap Tryz.prog 26 (unitElem (H := Unit)) M 1 ((DataW.map []).put (.int .u32 (tag : Int)) (.agg []))) (hT : w.ownsMap Tryz.prog 26 (plainElem (H := Unit) Tryz.prog 3) TM 1 ((DataW.map []).put (.int .u32 (tag : Int)) (.lit (.int .i64 1)))) (hMT : M ≠ TM) :
    Calls Tryz.prog 214 #[.map (some TM), .pointer (some ⟨P, 0, none⟩)] w fun e w' => e = .returned (.tuple #[]) ∧ Kept (fun k => k = TM) w w' := by
  obtain ⟨-, -, -, -, -, -, c6, -⟩ := paneAt hp
  have hTs := hT.lt
  have hMs := hM.lt
  go_enter Tryz.func214, Tryz.ntmps214
  go_wp2_with (first | (at_range; refine wpList_range_own _ rfl _ 205 rfl 26 97 keyedU Tryz.underlying205 _ M 1 _ rfl hM ?_; intro w0 hrg0 hg0 hs0))
  go_frame
  refine wp_loop_rounds 2 ?_
  rw [rounds_succ]
  go_wp2_with (first | (at_next; refine wpList_next_ranges _ rfl _ rfl 26 keyedU _ (fun x : Int => .int .u32 x) (fun _ : Unit => .agg #[]) (fun key kl h => by obtain ⟨x, h1, _⟩ := Maps.keyOf_int_inv Tryz.underlying26 h; exact ⟨x, h1⟩) (fun v y h => ⟨(), (unitElem_inv h).1⟩) M w.heap.size 1 _ _ _ rfl hrg0 ?_ ?_))
  · intro hc hl
    have := hl (.int .u32 (tag : Int))
    rw [Maps.has_put_same ⟨_, rfl⟩ (by simp [WideAt.IsKeyLit])] at this
    cases this
  · intro x c kl y w1 cnt1 hkey hlk hv hat hrg1 hlt hg1 hs1 hen
    have hkl := has_one hlk
    obtain ⟨x', hx, hx2, -⟩ := Maps.keyOf_int_inv Tryz.underlying26 hkey
    have hxt : x = (tag : Int) := by
      rw [hkl] at hx2
      injection hx with _ a1
      injection hx2 with _ a2
      omega
    subst hkl
    subst hxt
    clear hx hx2
    have hT1 := (hT.kept hg0 (by simp)).kept hg1 (by simp; omega)
    have hK1 : Hid (Kept (fun k => k = TM) w w1) := ((Kept.refl _ w).step (Kept.ofGrown hg0) (by simp)).step (Kept.ofGrown hg1) (by simp; omega)
    go_wp2_with (first
      | (at_lookup; refine wpList_lookup_own_int _ rfl _ _ 218 rfl 26 3 .i64 keyedU Tryz.underlying218 Tryz.underlying3 (zeroInt _) TM 1 _ rfl hT1 _ _ rfl hkey ?_; intro n hn hwn; have hn0 : n = 1 := (by rw [Maps.atKey_put_same ⟨_, rfl⟩ (by simp [WideAt.IsKeyLit])] at hn; injection hn with h1; injection h1 with _ h2; exact h2.symm); subst hn0)
      | (at_mapUpdate; refine wpList_mapUpdate_own _ rfl _ _ _ 218 rfl 26 3 keyedU Tryz.underlying218 _ TM 1 _ rfl hT1 (by decide) _ _ _ rfl rfl hkey _ [] (plainElem_int Tryz.underlying3 (by decide)) ?_; intro w2 hT2 hg2)
      | (at_lookup; refine wpList_lookup_own_int _ rfl _ _ 218 rfl 26 3 .i64 keyedU Tryz.underlying218 Tryz.underlying3 (zeroInt _) TM 2 _ rfl hT2 _ _ rfl hkey ?_; intro m hm hwm; have hm0 : m = 0 := (by rw [Maps.atKey_put_same (hT1.isMap) (by simp [WideAt.IsKeyLit])] at hm; injection hm with h1; injection h1 with _ h2; exact h2.symm); subst hm0)
      | (at_delete; refine wpList_delete_own _ rfl _ _ 218 26 rfl 3 keyedU Tryz.underlying218 _ TM 2 _ rfl hT2 _ _ rfl hkey ?_; intro w4 hT4 hturn))
    have hg4 := hturn.grown
    have hrg2 := (hrg1.kept hg2 (by simp; omega) (by simp; omega)).kept hg4 (by simp; omega) (by simp; omega)
    have hK2 : Hid (Kept (fun k => k = TM) w w4) := (hK1.out.step (Kept.ofGrown hg2) (by simp; omega)).step (Kept.ofGrown hg4) (by simp; omega)
    rw [rounds_succ]
    go_frame
    go_wp2_with (first | (at_next; refine wpList_next_ranges _ rfl _ rfl 26 keyedU _ (fun x : Int => .int .u32 x) (fun _ : Unit => .agg #[]) (fun key kl h => by obtain ⟨x, h1, _⟩ := Maps.keyOf_int_inv Tryz.underlying26 h; exact ⟨x, h1⟩) (fun v y h => ⟨(), (unitElem_inv h).1⟩) M w.heap.size 1 _ _ _ rfl hrg2 ?_ ?_))
    · intro _ _
      go_wp2
      go_end0
      exact ⟨rfl, hK2.out⟩
    · intro x kl3 a3 b3 w3 cnt3 hkey3 hlk3 hns
      exfalso
      have := has_one hlk3
      subst this
      rw [WideAt.sameKey_self (by simp [WideAt.IsKeyLit])] at hns
      cases hns

end Go.Proofs.YtcfngdnmpogaoaaGreat

/-
  The keys of a map of tags, one after the other, for every loop body.
-/
namespace Go.Proofs.YtcfngdnmpogaoaaGreat
open Go.RowKit Go.MuLone Go.Shelf Go.Maps

/-- What has come of a map's keys: none twice, and just those that are there and not to come any more. -/
def CollectedU (D0 : DataW Unit) (left : Lit → Bool) (ss : List Int) : Prop := ss.Nodup ∧ ∀ x, x ∈ ss ↔ (has D0 (.int .u32 x) = true ∧ left (.int .u32 x) = false)

theorem CollectedU.start (D0 : DataW Unit) : CollectedU D0 (has D0) [] := ⟨List.nodup_nil, fun x => by cases has D0 (.int .u32 x) <;> simp⟩

theorem CollectedU.step {D0 : DataW Unit} {left : Lit → Bool} {ss : List Int} (h : CollectedU D0 left ss) {x : Int} {y : DataW Unit} (hlk : left (.int .u32 x) = true) (hat : ∀ zd, D0.atKey (.int .u32 x) zd = y) :
    CollectedU D0 (fun z => left z && !z.sameKey (.int .u32 x)) (ss ++ [x]) := by
  have hhas : has D0 (.int .u32 x) = true := has_true_of_atKey hat
  have hnew : x ∉ ss := fun hx => by have := ((h.2 x).1 hx).2; rw [hlk] at this; cases this
  refine ⟨List.nodup_append.2 ⟨h.1, by simp, fun a ha b hb => by simp at hb; subst hb; exact fun e => hnew (e ▸ ha)⟩, fun y => ?_⟩
  by_cases hy : y = x
  · subst hy; simp [hhas, Lit.sameKey]
  · simp [h.2 y, hy, Lit.sameKey]

attribute [local go_sem] Oper.semAt_some

set_option maxRecDepth 100000 in
set_option maxHeartbeats 1000000 in
theorem keysU_in (F : Fence) (n : Nat) (hf : F.fn 171) (hro : F.round = none) (hn : 1 ≤ n) (l Bm b nn : Nat) (D0 : DataW Unit) (J Jx : List Int → World → Prop)
    (hY : ∀ pre x W, J pre W → pre.length < Maps.size D0 → YieldAt F (n - 1) Tryz.prog l #[.int .u32 x] W fun e W' =>
      (e = .returned (.bool true) ∧ J (pre ++ [x]) W' ∧ KeepsWalks W W') ∨ (e = .returned (.bool false) ∧ Jx (pre ++ [x]) W'))
    (W : World) (hJ : AbidesFrom W.heap.size J) (hm : W.cell? ⟨Bm, 0, none⟩ = some (.map (some b))) (hown : W.ownsMap Tryz.prog 26 (plainElem Tryz.prog 3) b nn D0) (h0 : J [] W) :
    CallsIn F n Tryz.prog 171 #[.func (.yield l) #[] #[], .pointer (some ⟨Bm, 0, none⟩)] W fun e W' => (∃ v, e = .returned v) ∧
      ((∃ ss : List Int, (ss.Nodup ∧ ∀ x, x ∈ ss ↔ has D0 (.int .u32 x) = true) ∧ J ss W') ∨ (∃ pre : List Int, (pre.Nodup ∧ ∀ x ∈ pre, has D0 (.int .u32 x) = true) ∧ Jx pre W')) := by
  refine callsIn_of_wp Tryz.func171 rfl hf ?_ hro
  simp only [Tryz.ntmps171, List.size_toArray, List.length_cons, List.length_nil, Nat.reduceAdd, Nat.reduceSub, Array.replicate_succ, Array.replicate_zero, List.push_toArray, List.append_toArray, List.nil_append, List.cons_append]
  gi_wp2_with (first
    | (gi_at_range; refine wpListIn_range_own _ rfl _ 218 rfl 26 3 keyedU Tryz.underlying218 _ b nn _ rfl hown ?_; intro w0 hrg0 hg0 hs0)
    | gi_in)
  go_frame
  gi_loopw [3] (fun _ wr => ∃ (left : Lit → Bool) (cnt : Nat) (ss : List Int), wr.ranges Tryz.prog 26 (plainElem Tryz.prog 3) b W.heap.size nn D0 left cnt ∧ ss.length + cnt ≤ Maps.size D0 ∧ CollectedU D0 left ss ∧ J ss wr)
    (fun _ wr => wr.rangeLeft b W.heap.size)
  case atStart =>
    exact ⟨_, _, [], hrg0, by simp, CollectedU.start D0, hJ [] W w0 none h0 hg0 (fun r e => by cases e)⟩
  case round =>
    obtain ⟨left, cnt, ss, hrg, hcs, hC, hJs⟩ := hrel
    gi_wp2_with (first
      | (gi_at_next; refine wpListIn_next_ranges _ rfl _ rfl 26 keyedU _ (fun x : Int => .int .u32 x) (fun x : Int => .int .i64 x) (fun key kl hk => by obtain ⟨x, hx, _⟩ := Maps.keyOf_int_inv Tryz.underlying26 hk; exact ⟨x, hx⟩) (fun v y hv => by obtain ⟨c, rfl, _⟩ := plainElem_int_inv Tryz.underlying3 hv; exact ⟨c, rfl⟩) b W.heap.size nn _ _ _ rfl hrg ?_ ?_)
      | gi_in)
    · intro hc0 hl0
      gi_wp2
      go_end0
      exact ⟨⟨_, rfl⟩, .inl ⟨ss, ⟨hC.1, fun x => by rw [hC.2 x, hl0]; simp⟩, hJs⟩⟩
    · intro x c kl yd yp w2 cnt2 hkey hlk hv hat hrg2 hlt hg2 hs2 hen
      obtain ⟨x', ex, rfl, _⟩ := Maps.keyOf_int_inv Tryz.underlying26 hkey
      obtain rfl : x = x' := by injection ex
      have hJ2 : J ss w2 := hJ ss wr w2 (some W.heap.size) hJs hg2 (fun r e => by cases e; exact ⟨Nat.le_refl _, hrg.iter_walk⟩)
      obtain ⟨fn, tmps, assign, body, hy, hR⟩ := hY ss x w2 hJ2 (by omega)
      clear hs2
      gi_wp2
      refine hR.mono ?_
      have hC2 := hC.step hlk hat
      rintro e W3 (⟨rfl, hJ3, hk3⟩ | ⟨rfl, hJx3⟩)
      · gi_wp2
        have hrg3 := hrg2.of_walks hk3
        go_roundw
        case rel => exact ⟨_, cnt2, ss ++ [x], hrg3, by simp; omega, hC2, hJ3⟩
        case measure => rw [hrg3.left_eq, hrg.left_eq]; exact hlt
      · gi_wp2
        refine bodyPost_ret (results_none rfl _ _ _) rfl ?_
        exact ⟨⟨_, rfl⟩, .inr ⟨ss ++ [x], ⟨hC2.1, fun y hy => ((hC2.2 y).1 hy).1⟩, hJx3⟩⟩

theorem keysU_stops (F : Fence) (n : Nat) (hf : F.fn 171) (hro : F.round = none) (hn : 1 ≤ n) (Bm b nn : Nat) (D0 : DataW Unit) (w : World) (hBm : Bm < w.heap.size)
    (hm : w.cell? ⟨Bm, 0, none⟩ = some (.map (some b))) (hown : w.ownsMap Tryz.prog 26 (plainElem Tryz.prog 3) b nn D0) :
    SeqStops F n Tryz.prog 171 #[.pointer (some ⟨Bm, 0, none⟩)] (fun x : Int => .int .u32 x) (fun ss => ss.Nodup ∧ ∀ x, x ∈ ss ↔ has D0 (.int .u32 x) = true) (fun pre => pre.Nodup ∧ ∀ x ∈ pre, has D0 (.int .u32 x) = true) (Maps.size D0) w := fun l J Jx W hW hJ _ hY h0 => by
  have hown' : W.ownsMap Tryz.prog 26 (plainElem Tryz.prog 3) b nn D0 := by
    have hbl := hown.lt
    obtain ⟨es, clock, hb, Ft, hs, hD⟩ := hown
    exact ⟨es, clock, (hW.block b hbl).trans hb, Ft, hs, hD⟩
  exact keysU_in F n hf hro hn l Bm b nn D0 J Jx hY W hJ ((hW.cell (p := ⟨Bm, 0, none⟩) hBm).trans hm) hown' h0

theorem keys_of (mb : Option Nat) (w : World) :
    Calls Tryz.prog 153 #[.map mb] w fun e w' => e = .returned (.func (.func 171) #[] #[.pointer (some ⟨w.heap.size, 0, none⟩)]) ∧ w' = w.alloc (.cells #[.map mb] 218) := by
  go_enter Tryz.func153, Tryz.ntmps153
  go_wp2
  go_ret
  exact ⟨rfl, rfl⟩
end Go.Proofs.YtcfngdnmpogaoaaGreat

/-
  slices.AppendSeq over the keys of a map of tags.
-/
namespace Go.Proofs.YtcfngdnmpogaoaaGreat
open Go.RowKit Go.MuLone Go.Shelf Go.Maps

attribute [local go_sem] Oper.semAt_some

theorem infoU32 : (Tryz.prog.info? 26).map (fun i => (i.zero, i.size, i.bytes)) = some (some (.int .u32 0), 1, 4) := by kernel_rfl

set_option maxRecDepth 100000 in
set_option maxHeartbeats 1000000 in
theorem appendSeq_keys (B0 Bm b nn : Nat) (D0 : DataW Unit) (p0 : Option Addr) (n0 c0 : Nat) (w : World) (hm : w.cell? ⟨Bm, 0, none⟩ = some (.map (some b))) (hown : w.ownsMap Tryz.prog 26 (plainElem Tryz.prog 3) b nn D0)
    (hB0 : B0 ≤ w.heap.size) (hv : w.ownsRow B0 26 1 (.slice p0 n0 c0) 0 []) (hN : Maps.size D0 ≤ 1000000000) :
    Calls Tryz.prog 152 #[.slice p0 n0 c0, .func (.func 171) #[] #[.pointer (some ⟨Bm, 0, none⟩)]] w fun e w' =>
      ∃ v ss, e = .returned v ∧ (List.Nodup ss ∧ ∀ x, x ∈ ss ↔ has D0 (.int .u32 x) = true) ∧ w'.ownsRow B0 26 1 v ss.length (ss.map fun x => .int .u32 x) ∧ Below B0 w w' := by
  obtain ⟨i0, hi, hz0, hz1, hz2⟩ := info_parts infoU32
  have hBm := World.block_lt_of_cell? w ⟨Bm, 0, none⟩ hm
  refine (callsIn_wide (n := 9)).1 ?_
  refine callsIn_of_wp_marks Tryz.func152 rfl trivial ?_ rfl
  simp only [Tryz.ntmps152, List.size_toArray, List.length_cons, List.length_nil, Nat.reduceAdd, Nat.reduceSub, Array.replicate_succ, Array.replicate_zero, List.push_toArray, List.append_toArray, List.nil_append, List.cons_append]
  gi_wp2
  have hbx := Boxed.new w 68 (.slice p0 n0 c0)
  have hm1 : (w.alloc (.cells #[.slice p0 n0 c0] 68)).cell? ⟨Bm, 0, none⟩ = some (.map (some b)) := ((((Below.refl w.heap.size w).alloc (Nat.le_refl _) _).cell hBm)).trans hm
  have hW1s : w.heap.size < (w.alloc (.cells #[.slice p0 n0 c0] 68)).heap.size := by simp
  have hBm1 : Bm < (w.alloc (.cells #[.slice p0 n0 c0] 68)).heap.size := by simp; omega
  have hbel : Below B0 w (w.alloc (.cells #[.slice p0 n0 c0] 68)) := (Below.refl B0 w).alloc hB0 _
  have hown1 := hown.alloc (.cells #[.slice p0 n0 c0] 68)
  have hv1 := hv.alloc (.cells #[.slice p0 n0 c0] 68)
  generalize w.alloc (.cells #[.slice p0 n0 c0] 68) = W1 at *
  refine wpIn_rangeFunc_ownF (F := Fence.wide) rfl (by decide) (gf := 171) (lb := #[.pointer (some ⟨Bm, 0, none⟩)]) rfl trivial (enters_of Tryz.func171 (by kernel_rfl) rfl)
    (encs := fun x : Int => #[.int .u32 x]) (Kp := KeepsWalks) (N := Maps.size D0) (w0 := W1)
    (keysU_stops Fence.wide (9 - 1) trivial rfl (by decide) Bm b nn D0 W1 hBm1 hm1 hown1) walksK_t (walksK_b (w := W1)) (Below.refl _ _) (fun _ => rfl)
    (fun pre W => (∃ v, Boxed W w.heap.size 68 v ∧ W.ownsRow B0 26 1 v pre.length (pre.map fun x => .int .u32 x) ∧ True) ∧ Below B0 w W)
    (fun _ _ _ => False)
    (OwnFrom.and (Own.from (holdsRow_own B0 w.heap.size 68 26 1 (fun pre : List Int => pre.length) (fun pre => pre.map fun x => .int .u32 x) (fun _ _ => True)) _) (ownFrom_below hB0 (by omega)))
    (fun _ _ _ _ _ hs _ _ => hs)
    ⟨⟨_, hbx, hv1, trivial⟩, hbel⟩
    (fun x => { tmps := #[.slice p0 n0 c0, .func (.func 171) #[] #[.pointer (some ⟨Bm, 0, none⟩)], .pointer (some ⟨w.heap.size, 0, none⟩), undef, .slice none 0 0, .int .u32 x, .func (.func 171) #[] #[.pointer (some ⟨Bm, 0, none⟩)], .int .u32 x, undef, undef, undef, undef, undef], defers := [] }) ?assign ?body ?done ?stop
  case assign =>
    intro l x W K hK
    gi_wp2
    exact hK
  case body =>
    rintro l pre x W ⟨⟨v, hv2, hrow, -⟩, hB⟩ hlt
    have hc := hv2.cell
    have hsz := hB.size
    gi_wp2_with (first | (gi_at_builtin; refine wpListIn_append_own _ rfl _ _ 68 rfl B0 26 i0 (.int .u32 0) 1 4 Tryz.underlying68 hi hz0 hz1 hz2 rfl (by decide) _ _ _ rfl (hrow.alloc _) ⟨W.heap.size, 0, none⟩ 1 1 [.int .u32 x] rfl rfl (cell_one_new _ _ _) (by simp [Value.oneCell']) (by simp only [maxLen]; omega) (by omega) (by simp; omega) ?_; intro v' w1 hown' hgrow _; obtain ⟨g', cap', rfl⟩ := ownsRow_succ hown'; obtain ⟨hv3, hv4, hr2, hk2, hb2⟩ := hv2.appended (by decide) hrow (by omega) hB0 hown' hgrow; have hc1 := hv3.cell; have hf1 := hv3.frozen) | gi_in)
    exact ⟨hk2, hk2.walks, ⟨_, hv4, by simpa using hr2, trivial⟩, hB.trans hb2⟩
  case done =>
    rintro D ys W hD hS ⟨⟨v, hv2, hrow, -⟩, hB⟩ hK
    have hc := hv2.cell
    gi_wp2
    refine ⟨by simp, .inl ⟨_, _, rfl, run_takeDeferred hK, ?_⟩⟩
    exact ⟨_, results_tmp rfl _ _ _, ⟨v, ys, rfl, hS, ownsRow_putObj hrow _ hK rfl, hB.trans (belowK_b (w := W1) (by omega) W D _ _ (by omega) hK rfl rfl)⟩⟩
  case stop =>
    rintro D c pre W _ _ h _
    exact h.elim
end Go.Proofs.YtcfngdnmpogaoaaGreat

/-
  slices.Sort of one tag.
-/
namespace Go.Proofs.YtcfngdnmpogaoaaGreat
open Go.RowKit Go.MuLone Go.Shelf Go.Maps

theorem insOrd_one (v : Value) (w : World) :
    Calls Tryz.prog 176 #[v, .int .i64 0, .int .i64 1] w fun e w' => e = .returned (.tuple #[]) ∧ w' = w := by
  go_enter Tryz.func176, Tryz.ntmps176
  go_wp2
  refine wp_loop_rounds 1 ?_
  rw [rounds_succ]
  go_wp2
  go_end0
  exact ⟨rfl, rfl⟩

theorem pdqOrd_one (v : Value) (limit : Value) (w : World) :
    Calls Tryz.prog 172 #[v, .int .i64 0, .int .i64 1, limit] w fun e w' => e = .returned (.tuple #[]) ∧ w' = w := by
  go_enter Tryz.func172, Tryz.ntmps172
  go_wp2
  refine wp_loop_rounds 1 ?_
  rw [rounds_succ]
  go_wp2_with fail
  refine (insOrd_one _ _).mono ?_
  rintro e W ⟨rfl, rfl⟩
  go_wp2
  exact bodyPost_ret (results_none rfl _ _ _) rfl ⟨rfl, rfl⟩

set_option maxRecDepth 100000 in
theorem len64_one (w : World) : Calls Tryz.prog 139 #[.int .u64 1] w fun e w' => (∃ v, e = .returned v) ∧ w' = w := by
  go_enter Tryz.func139, Tryz.ntmps139
  go_wp2_with fail
  go_ret
  exact ⟨⟨_, rfl⟩, rfl⟩

theorem len_one (w : World) : Calls Tryz.prog 106 #[.int .u64 1] w fun e w' => (∃ v, e = .returned v) ∧ w' = w := by
  go_enter Tryz.func106, Tryz.ntmps106
  go_wp2_with fail
  refine (len64_one _).mono ?_
  rintro e W ⟨⟨v, rfl⟩, rfl⟩
  go_wp2
  go_ret
  exact ⟨⟨_, rfl⟩, rfl⟩

theorem sort_one (p : Option Addr) (c : Nat) (w : World) : Calls Tryz.prog 154 #[.slice p 1 c] w fun e w' => e = .returned (.tuple #[]) ∧ w' = w := by
  go_enter Tryz.func154, Tryz.ntmps154
  go_wp2_with fail
  refine (len_one _).mono ?_
  rintro e W ⟨⟨v, rfl⟩, rfl⟩
  go_wp2_with fail
  refine (pdqOrd_one _ _ _).mono ?_
  rintro e W2 ⟨rfl, rfl⟩
  go_wp2
  go_end0
  exact ⟨rfl, rfl⟩

theorem step_len {P : Program} {ops : Array Oper} {o : Oper} {a : Act} {w : World} {K : Act → World → Prop} {Q : Exit → Act → World → Prop} {E : Prop} (hg : o.guard = none) (m : Operand) (t : TypeId)
    (hop : o.op = Op.call { callee := Callee.builtin Builtin.len, args := #[m], argTypes := #[t] }) (k e : TypeId) (ht : P.underlying t = some (.map k e)) (R : Value → Option (DataW Unit × List MemPlace)) (b n : Nat) (D : DataW Unit)
    (hm : a.eval m = .map (some b)) (hown : w.ownsMap P k R b n D) (h : K (a.put o.dst (.int .i64 (Maps.size D))) w) :
    if Region.wanted o (yielded ops a.tmps) = true then Oper.wp P o a w K Q else E := by
  have hw : Region.wanted o (yielded ops a.tmps) = true := by simp [Region.wanted, hg]
  rw [if_pos hw]
  unfold Oper.wp
  simp [execOp, hop, resolve, invoke, builtin, hm, hown.len ht o.type, Result.andThen]
  exact h

theorem size_one (tag : Nat) : Maps.size ((DataW.map (H := Unit) []).put (.int .u32 (tag : Int)) (.lit (.int .i64 1))) = 1 := rfl

theorem enterKeys : ∀ (vs : Array Value) (w : World), (callFunc 153 vs).run Tryz.prog w = .ok (.enter 153 vs) w := enters_of Tryz.func153 (by kernel_rfl) rfl
theorem enterAppSeq : ∀ (vs : Array Value) (w : World), (callFunc 152 vs).run Tryz.prog w = .ok (.enter 152 vs) w := enters_of Tryz.func152 (by kernel_rfl) rfl

theorem eq_one {ss : List Int} {t : Int} (hn : ss.Nodup) (hm : ∀ x, x ∈ ss ↔ x = t) : ss = [t] := by
  match ss, hn, hm with
  | [], _, hm => exact absurd ((hm t).2 rfl) (by simp)
  | [a], _, hm => rw [(hm a).1 (by simp)]
  | a :: b :: r, hn, hm =>
    have h1 := (hm a).1 (by simp)
    have h2 := (hm b).1 (by simp)
    rw [h1, h2] at hn
    simp at hn

theorem has_tag (tag : Nat) (x : Int) : has ((DataW.map (H := Unit) []).put (.int .u32 (tag : Int)) (.lit (.int .i64 1))) (.int .u32 x) = true ↔ x = (tag : Int) := by
  constructor
  · intro h
    have := has_one h
    injection this
  · rintro rfl
    exact Maps.has_put_same ⟨_, rfl⟩ (by simp [WideAt.IsKeyLit]) _

/-- AppendSeq over the keys of a map with one tag, into a slice just made. -/
theorem appSeq_one (TM tag S Bm : Nat) (w W : World) (hb : Below w.heap.size w W) (hT : W.ownsMap Tryz.prog 26 (plainElem (H := Unit) Tryz.prog 3) TM 1 ((DataW.map []).put (.int .u32 (tag : Int)) (.lit (.int .i64 1))))
    (hS : W.heap[S]? = some (.cells #[.int .u32 0] 26 (0, 0))) (hSw : w.heap.size ≤ S) (hBm : W.cell? ⟨Bm, 0, none⟩ = some (.map (some TM))) :
    Calls Tryz.prog 152 #[.slice (some ⟨S, 0, none⟩) 0 1, .func (.func 171) #[] #[.pointer (some ⟨Bm, 0, none⟩)]] W fun e w' =>
      ∃ g c, e = .returned (.slice (some ⟨g, 0, none⟩) 1 c) ∧ Row w' 26 1 (.slice (some ⟨g, 0, none⟩) 1 c) [.int .u32 tag] ∧ w.heap.size ≤ g ∧ Below w.heap.size w w' := by
  refine (appendSeq_keys w.heap.size Bm TM 1 _ (some ⟨S, 0, none⟩) 0 1 W hBm hT hb.size ⟨rfl, .inr ⟨S, 1, #[.int .u32 0], rfl, hSw, hS, by decide, by decide, rfl, rfl⟩⟩ (by rw [size_one]; decide)).mono ?_
  rintro e w' ⟨v, ss, rfl, ⟨hnd, hmem⟩, hrow, hb2⟩
  have hss := eq_one hnd (fun x => (hmem x).trans (has_tag tag x))
  subst hss
  have hr := Row.ofOwns hrow
  rcases hrow.2 with ⟨rfl, h0⟩ | ⟨g, cap, cur, rfl, hg, _⟩
  · simp at h0
  · exact ⟨g, cap, rfl, hr, hg, hb.trans hb2⟩

set_option maxRecDepth 20000 in
set_option maxHeartbeats 1600000 in
theorem rising_one (TM tag : Nat) (w : World) (hT : w.ownsMap Tryz.prog 26 (plainElem (H := Unit) Tryz.prog 3) TM 1 ((DataW.map []).put (.int .u32 (tag : Int)) (.lit (.int .i64 1)))) :
    Calls Tryz.prog 129 #[.map (some TM)] w fun e w' => ∃ g c, e = .returned (.slice (some ⟨g, 0, none⟩) 1 c) ∧ Row w' 26 1 (.slice (some ⟨g, 0, none⟩) 1 c) [.int .u32 tag] ∧ w.heap.size ≤ g ∧ Below w.heap.size w w' := by
  go_enter Tryz.func129, Tryz.ntmps129
  have hmk : ∀ W : World, (Instr.makeSlice 68 (.int .i64 0) (.int .i64 1)).run Tryz.prog W = .ok (.slice (some ⟨W.heap.size, 0, none⟩) 0 1) (W.alloc (.cells #[.int .u32 0] 26)) := fun _ => by kernel_rfl
  have hA := appSeq_one TM tag w.heap.size (w.heap.size + 1) w ((w.alloc (.cells #[.int .u32 0] 26)).alloc (.cells #[.map (some TM)] 218)).drew ((((Below.refl _ w).alloc (Nat.le_refl _) _).alloc (by simp) _).drew) (((hT.alloc _).alloc _).drew) (two_new w _ _).1 (Nat.le_refl _) (by rw [World.cell?_drew]; exact blkCell (two_new w _ _).2 rfl)
  have hB := appSeq_one TM tag (w.heap.size + 1) w.heap.size w ((w.alloc (.cells #[.map (some TM)] 218)).alloc (.cells #[.int .u32 0] 26)).drew ((((Below.refl _ w).alloc (Nat.le_refl _) _).alloc (by simp) _).drew) (((hT.alloc _).alloc _).drew) (two_new w _ _).2 (by omega) (by rw [World.cell?_drew]; exact blkCell (two_new w _ _).1 rfl)
  go_upto_region 1 with fail
  go_region_law (first
    | (refine step_len rfl _ _ rfl 26 3 Tryz.underlying218 _ TM 1 _ rfl (by first | exact hT | exact hT.alloc _ | exact hT.drew | exact (hT.drew).alloc _) ?_; rw [size_one])
    | (refine step_call1 rfl 153 _ _ rfl enterKeys (.map (some TM)) rfl _ (keys_of _ _) ?_; rintro e w1 ⟨rfl, rfl⟩; refine ⟨_, rfl, ?_⟩)
    | (refine step_call2 rfl 152 _ _ _ rfl enterAppSeq (.slice (some ⟨w.heap.size, 0, none⟩) 0 1) (.func (.func 171) #[] #[.pointer (some ⟨w.heap.size + 1, 0, none⟩)]) rfl rfl _ hA ?_; rintro e w2 ⟨g, c, rfl, hr2, hg2, hb2⟩; refine ⟨_, rfl, ?_⟩)
    | (refine step_call2 rfl 152 _ _ _ rfl enterAppSeq (.slice (some ⟨w.heap.size + 1, 0, none⟩) 0 1) (.func (.func 171) #[] #[.pointer (some ⟨w.heap.size, 0, none⟩)]) rfl rfl _ hB ?_; rintro e w2 ⟨g, c, rfl, hr2, hg2, hb2⟩; refine ⟨_, rfl, ?_⟩))
  all_goals (clear hA hB hmk; go_wp2_with fail; refine (sort_one _ _ _).mono ?_; rintro e W3 ⟨rfl, rfl⟩; go_wp2; go_ret; exact ⟨g, c, rfl, hr2, hg2, hb2⟩)
end Go.Proofs.YtcfngdnmpogaoaaGreat
