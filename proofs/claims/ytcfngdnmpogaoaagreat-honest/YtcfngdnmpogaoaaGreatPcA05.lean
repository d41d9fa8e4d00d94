import Derived.Test.YtcfngdnmpogaoaaGreatPcA03
namespace Go.Proofs.YtcfngdnmpogaoaaGreat
open Go.RowKit

theorem feedF_void (c : Cf) (n f : Nat) (sp : Sp) : feedF c n f sp [] = (sp, []) := by
  cases f with
  | zero => rfl
  | succ f => exact (feedF_step c n f sp []).1 (by decide)
theorem set_void (rs : List (List UInt8)) (n : Nat) (h : rs[n]? = some []) : rs.set n [] = rs := by
  apply List.ext_getElem?
  intro i
  rw [List.getElem?_set]
  split
  · rename_i e
    subst e
    split
    · exact h.symm
    · rename_i hl
      rw [List.getElem?_eq_none (by omega)] at h; cases h
  · rfl
set_option maxRecDepth 20000 in
set_option maxHeartbeats 1600000 in
/-- An event fed by 'fed'. -/
theorem fed_on (g n : Nat) (c : Cf) (sp : Sp) (rs : List (List UInt8)) (F : Nat → Prop) (T : Option Int) (ev : Ev) (s : SrcS) (w : World) (h : FlowOn w g c sp rs F T) (_hF : ∀ k, F k → k < w.heap.size) (hE : EvB ev) (hs : sp.src[n]? = some s) (ho : s.opened = true) (hbr : s.broken = false) (hl0 : rs[n]? = some []) (hl : sp.E.length < 80000000) :
    Calls Tryz.prog 24 #[.pointer (some ⟨g, 0, none⟩), .int .i64 n, evItemV ev] w fun e w' => e = .returned (.bool true) ∧ FlowOn w' g c ((sp.event0 c n ev).line c) rs (Grown F w) T ∧ Kept F w w' := by
  have hFr := fun W => frame_yes 1 ev.key ev.t ev.v ev.tag W (by have := hE.k2; omega) hE.item hE.tg
  have HFd : Hid (∀ W bv, FlowOn W g c sp rs F T → Row W 5 1 bv ((evB ev).map byteV) → Calls Tryz.prog 20 #[.pointer (some ⟨g, 0, none⟩), .int .i64 n, bv] W fun e w' => e = .returned (.int .i64 0) ∧ FlowOn w' g c ((sp.event0 c n ev).line c) rs (Grown F W) T ∧ Kept F W w') := fun W bv hW hb => by
    have hlen := (evB_len hE)
    have h1 := feed_on g n c sp rs F T bv (evB ev) [] s W hW hs ho hbr hl0 hb (by omega)
    rw [List.nil_append] at h1
    have h2 := (feed_ev c n (evB ev).length sp ev hE []).1
    rw [List.append_nil, feedF_void] at h2
    rw [h2, set_void rs n hl0] at h1
    exact h1
  clear hs ho hbr hl0 hl
  unfold evItemV
  go_enter Tryz.func24, Tryz.ntmps24
  go_upto_region 1 with fail
  have hi1 := heap_alloc_new w (.cells #[.int .i64 1, .string ev.key, .int .i64 ev.t, .int .i64 ev.v, .int .u32 (ev.tag : Int)] 28)
  have B1 : Below w.heap.size w (w.alloc (.cells #[.int .i64 1, .string ev.key, .int .i64 ev.t, .int .i64 ev.v, .int .u32 (ev.tag : Int)] 28)) := (Below.refl _ w).alloc (Nat.le_refl _) _
  have H1 : Hid (FlowOn (w.alloc (.cells #[.int .i64 1, .string ev.key, .int .i64 ev.t, .int .i64 ev.v, .int .u32 (ev.tag : Int)] 28)) g c sp rs F T) := h.below B1
  have HB1 : Hid _ := B1
  generalize w.alloc (.cells #[.int .i64 1, .string ev.key, .int .i64 ev.t, .int .i64 ev.v, .int .u32 (ev.tag : Int)] 28) = W1 at *
  obtain ⟨i0, i1, i2, i3, i4⟩ := itemAt hi1
  clear B1 h
  go_wp2_with fail
  clear i0 i1 i2 i3 i4
  refine (hFr W1).mono ?_
  rintro e W2 ⟨v', rfl, hr2, -, hb2⟩
  have HB2 : Hid (Below w.heap.size w W2) := HB1.out.trans (hb2.mono HB1.out.size)
  have HC2 := HFd.out W2 v' (H1.out.below hb2) hr2
  clear hi1 H1 HB1 hb2 hr2 hFr HFd
  go_wp2_with fail
  refine HC2.mono ?_
  rintro e W3 ⟨rfl, h3, k3⟩
  have H3 : Hid (FlowOn W3 g c ((sp.event0 c n ev).line c) rs (Grown F w) T) := h3.mono (fun k hk => hk.imp id (fun h => by have := HB2.out.size; omega))
  have K3 : Hid (Kept F w W3) := (Kept.ofBelow HB2.out _).trans k3
  clear h3 k3
  go_wp2
  go_ret
  exact ⟨rfl, H3.out, K3.out⟩

abbrev kEv : Ev := ⟨⟨#[107]⟩, 5, 3, 9⟩
abbrev kCf : Cf := ⟨10, 10, 0, 1⟩
abbrev kWin : Win := ⟨⟨#[107]⟩, 0, 1, 3, 3, 3, [9]⟩
theorem kEvB : EvB kEv := ⟨by decide, by decide, by decide, by decide, by decide, by decide, by decide⟩
theorem k_done : DoneOk 10 10 none 10 true [kEv] [kWin] := by
  refine ⟨List.pairwise_singleton _ _, fun x => ?_⟩
  rw [List.mem_singleton]
  have hw : winF ⟨#[107]⟩ 0 10 [kEv] = kWin := by
    have hk : keyEq (⟨#[107]⟩ : ByteArray) ⟨#[107]⟩ = true := (keyEq_iff _ _).2 rfl
    have hi : inWin ⟨#[107]⟩ 0 10 kEv = true := by
      unfold inWin
      rw [hk]; decide
    show winStep _ _ _ _ _ = _
    unfold winStep
    rw [if_pos hi]
    have ht : taggedL [] 9 = [9] := by decide
    have hs : wrap64 (0 + 3) = 3 := by unfold wrap64; omega
    show (⟨_, _, _, wrap64 (0 + 3), _, _, taggedL [] 9⟩ : Win) = _
    rw [ht, hs]; rfl
  constructor
  · rintro rfl
    exact ⟨⟨#[107]⟩, 0, ⟨rfl, ⟨kEv, List.mem_singleton.2 rfl, rfl, ⟨0, by decide⟩, by decide, by decide⟩, by decide, rfl⟩, hw.symm⟩
  · rintro ⟨k, s, ⟨-, ⟨e, he, hk, hd, h1, h2⟩, h3, -⟩, rfl⟩
    rw [List.mem_singleton] at he
    subst he
    subst hk
    have h1 : s ≤ 5 := h1
    have h2 : 5 < s + 10 := h2
    obtain ⟨q, rfl⟩ := hd
    have : q = 0 := by omega
    subst this
    exact hw

set_option maxRecDepth 20000 in
set_option maxHeartbeats 3200000 in
theorem known_on (HRis : RisingOk) (HSo : SortOk) (w : World) : Calls Tryz.prog 14 #[] w fun e w' => e = .returned (.bool true) ∧ Below w.heap.size w w' := by
  have hcf : isConf 10 10 0 1 := by unfold isConf; decide
  have HFl : Hid (∀ W, Calls Tryz.prog 19 #[.agg #[.int .i64 10, .int .i64 10, .int .i64 0, .int .i64 1]] W fun e w' => ∃ g, W.heap.size ≤ g ∧ e = .returned (.pointer (some ⟨g, 0, none⟩)) ∧ FlowOn w' g kCf (Sp.new.open 0) (List.replicate 8 []) (fun k => W.heap.size ≤ k) none ∧ Below W.heap.size W w') := fun W => flow_on 10 10 0 1 W hcf
  go_enter Tryz.func14, Tryz.ntmps14
  go_wp2_with fail
  refine (HFl.out w).mono ?_
  rintro e W1 ⟨g, hg, rfl, hf1, hb1⟩
  have HFe : Hid (Calls Tryz.prog 24 #[.pointer (some ⟨g, 0, none⟩), .int .i64 0, .agg #[.int .i64 1, .string ⟨#[107]⟩, .int .i64 5, .int .i64 3, .int .u32 9]] W1 fun e w' => e = .returned (.bool true) ∧ FlowOn w' g kCf (((Sp.new.open 0).event0 kCf 0 kEv).line kCf) (List.replicate 8 []) (Grown (fun k => w.heap.size ≤ k ∧ k < W1.heap.size) W1) none ∧ Kept (fun k => w.heap.size ≤ k ∧ k < W1.heap.size) W1 w') := fed_on g 0 kCf (Sp.new.open 0) (List.replicate 8 []) _ none kEv ⟨true, false, 0, false⟩ W1 hf1.lt (fun k hk => hk.2) kEvB rfl rfl rfl rfl (by decide)
  have HB1 : Hid (Below w.heap.size w W1) := hb1
  clear hf1 hb1 HFl
  go_wp2_with fail
  refine HFe.out.mono ?_
  rintro e W2 ⟨rfl, h2, k2⟩
  have H2 : Hid (FlowOn W2 g kCf (((Sp.new.open 0).event0 kCf 0 kEv).line kCf) (List.replicate 8 []) (fun k => w.heap.size ≤ k) none) := h2.mono (fun k hk => hk.elim (fun h => h.1) (fun h => by have := HB1.out.size; omega))
  have HB2 : Hid (Below w.heap.size w W2) := HB1.out.trans (k2.toBelow HB1.out.size (fun k hk e => by omega))
  clear h2 k2 HB1 HFe
  go_wp2_with fail
  refine (mark_any 10 W2).mono ?_
  rintro e W3 ⟨bv, rfl, hr3, -, hb3⟩
  have HB3 : Hid (Below w.heap.size w W3) := HB2.out.trans (hb3.mono HB2.out.size)
  have HFm : Hid (Calls Tryz.prog 20 #[.pointer (some ⟨g, 0, none⟩), .int .i64 0, bv] W3 fun e w' => e = .returned (.int .i64 0) ∧ FlowOn w' g kCf (((((Sp.new.open 0).event0 kCf 0 kEv).line kCf).mark0 0 10).line kCf) (List.replicate 8 []) (Grown (fun k => w.heap.size ≤ k) W3) none ∧ Kept (fun k => w.heap.size ≤ k) W3 w') := by
    have h1 := feed_on g 0 kCf (((Sp.new.open 0).event0 kCf 0 kEv).line kCf) (List.replicate 8 []) (fun k => w.heap.size ≤ k) none bv (markB 10) [] ⟨true, false, 5, true⟩ W3 (H2.out.below hb3) rfl rfl rfl rfl hr3 (by decide)
    rw [List.nil_append] at h1
    have h2 := (feed_mk kCf 0 (markB 10).length (((Sp.new.open 0).event0 kCf 0 kEv).line kCf) 10 (by decide) (by decide) []).1
    rw [List.append_nil, feedF_void] at h2
    rw [h2, set_void (List.replicate 8 []) 0 rfl] at h1
    exact h1
  clear hr3 hb3 H2 HB2
  go_wp2_with fail
  refine HFm.out.mono ?_
  rintro e W4 ⟨rfl, h4, k4⟩
  have HB4 : Hid (Below w.heap.size w W4) := HB3.out.trans (k4.toBelow HB3.out.size (fun k hk e => by omega))
  have HTk : Hid (Calls Tryz.prog 25 #[.pointer (some ⟨g, 0, none⟩)] W4 fun e w' => ∃ ov ys, e = .returned ov ∧ WinsAt w' ov ys 0 ∧ ys.map WinX.w = [kWin] ∧ Below w.heap.size W4 w') := by
    refine (take_on HRis HSo g kCf _ _ _ none W4 h4 (fun _ => rfl) (by decide) (by decide) (by decide)).mono ?_
    rintro e w' ⟨ov, ys, rfl, hw, hd, -, -, -, -, hk⟩
    exact ⟨ov, ys, rfl, hw, WinSet.uniq hd k_done, hk.toBelow HB4.out.size (fun k hk e => by
      rcases e with e | e
      · omega
      · have := HB3.out.size; omega)⟩
  clear h4 k4 HFm HB3
  go_wp2_with fail
  refine HTk.out.mono ?_
  rintro e W5 ⟨ov, ys, rfl, hw, hys, hb5⟩
  have HB5 : Hid (Below w.heap.size w W5) := HB4.out.trans hb5
  obtain ⟨x, rfl, hx⟩ : ∃ x, ys = [x] ∧ x.w = kWin := List.map_eq_singleton_iff.1 hys
  obtain ⟨og, oo, oc, rfl, -, -, -, -⟩ := hw.at (n := 0) (x := x) rfl
  obtain ⟨_, _, hv, -, l0, l1, l2, l3, l4, l5, l6⟩ := hw.cells (Below.refl _ _) (k := 0) (x := x) rfl
  simp only [Option.some.injEq, Addr.mk.injEq, and_true] at hv
  obtain ⟨rfl, rfl⟩ := hv
  rw [hx] at l0 l1 l2 l3 l4 l5
  simp only [Nat.zero_mul, Nat.add_zero, List.length_cons, List.length_nil, Nat.zero_add] at *
  have hrt := (hw.tags x (List.mem_singleton.2 rfl)).1
  rw [hx] at hrt
  have hb6 : Below W5.heap.size W5 (W5.alloc (.cells #[.int .u32 9] 26)) := (Below.refl _ W5).alloc (Nat.le_refl _) _
  have hn6 := heap_alloc_new W5 (.cells #[.int .u32 9] 26)
  have HSm : Hid (Calls Tryz.prog 34 #[.agg #[.string ⟨#[107]⟩, .int .i64 0, .int .i64 1, .int .i64 3, .int .i64 3, .int .i64 3, x.tv], .agg #[.string ⟨#[107]⟩, .int .i64 0, .int .i64 1, .int .i64 3, .int .i64 3, .int .i64 3, .slice (some ⟨W5.heap.size, 0, none⟩) 1 1]] (W5.alloc (.cells #[.int .u32 9] 26)) fun e w' => e = .returned (.bool true) ∧ Below (W5.alloc (.cells #[.int .u32 9] 26)).heap.size (W5.alloc (.cells #[.int .u32 9] 26)) w') :=
    sameK_any kWin x.tv (.slice (some ⟨W5.heap.size, 0, none⟩) 1 1) _ (hrt.below hb6 (fun k hk => (hrt.blk_lt hk).1)) (.inr ⟨W5.heap.size, 0, 1, 1, #[.int .u32 9], rfl, hn6, by omega, by decide, by decide, rfl, fun j hj => by
      obtain rfl : j = 0 := by omega
      rfl⟩) (by decide)
  have HB6 : Hid (Below w.heap.size w (W5.alloc (.cells #[.int .u32 9] 26))) := HB5.out.trans (hb6.mono HB5.out.size)
  have htv := row_slice hrt
  clear hb6 hn6 hrt hw hys hb5 HTk HB4
  generalize x.tv = tv at *
  obtain ⟨ta, tn, tc, rfl⟩ : ∃ a n c, tv = .slice a n c := htv
  go_wp2_with fail
  refine HSm.out.mono ?_
  rintro e W7 ⟨rfl, hb7⟩
  have HB7 : Hid (Below w.heap.size w W7) := HB6.out.trans (hb7.mono HB6.out.size)
  clear hb7 HSm HB6 HB5 l0 l1 l2 l3 l4 l5 l6
  go_wp2
  go_ret
  exact ⟨rfl, HB7.out⟩
end Go.Proofs.YtcfngdnmpogaoaaGreat
