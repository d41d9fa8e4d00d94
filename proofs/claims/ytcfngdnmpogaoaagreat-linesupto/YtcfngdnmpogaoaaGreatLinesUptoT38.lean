import Derived.Test.YtcfngdnmpogaoaaGreatLinesUptoT35
import Derived.Test.YtcfngdnmpogaoaaGreatLinesUptoT36
import Derived.Test.YtcfngdnmpogaoaaGreatLinesUptoT37
import Derived.Test.YtcfngdnmpogaoaaGreatLinesUptoT34
import Derived.StillTailTactics

/-
  A script's step: New; Frame and Unframe; a step where there is no flow.
-/
namespace Go.Proofs.YtcfngdnmpogaoaaGreat
open Go.RowKit Go.MuLone

theorem infoPl : (Tryz.prog.info? 125).map (fun i => (i.zero, i.size, i.bytes)) = some (some (.pointer none), 1, 8) := by kernel_rfl

theorem CfOk.of {size slide late keys : Int} (h : isConf size slide late keys) : CfOk ⟨size, slide, late, keys⟩ := by
  obtain ⟨h1, h2, h3, h4, h5, h6, h7, h8⟩ := h
  refine ⟨h1, h2, h3, h5, h6, ?_⟩
  show size ≤ 4096 * slide
  have hg1 : 0 < Nat.gcd size.toNat slide.toNat := Nat.gcd_pos_of_pos_left _ (by omega)
  have hg2 : Nat.gcd size.toNat slide.toNat ≤ slide.toNat := Nat.gcd_le_right _ (by omega)
  have hd : Nat.gcd size.toNat slide.toNat ∣ size.toNat := Nat.gcd_dvd_left _ _
  generalize Nat.gcd size.toNat slide.toNat = G at *
  obtain ⟨k, hk⟩ := hd
  have hsz : size = (G : Int) * (k : Int) := by
    have : (size.toNat : Int) = size := by omega
    rw [← this, hk]; exact Int.natCast_mul G k
  have hdv : size / (G : Int) = (k : Int) := by rw [hsz, Int.mul_ediv_cancel_left _ (by omega)]
  rw [hdv] at h4
  have h9 : (G : Int) * (k : Int) ≤ (G : Int) * 4096 := Int.mul_le_mul_of_nonneg_left h4 (by omega)
  omega

/-- The players' row turned. -/
theorem WInv.players {W W' : World} {bw : Nat} {ps ps' hv : Value} {hs : List HoldD} {ptrs : List Value} (h : WInv W bw ps hv hs) (hr : Row W 125 1 ps ptrs) (hk : Kept (fun k => k = bw ∨ ps.ownBlock = some k) W W') (hb : W'.heap[bw]? = some (.cells #[ps', hv] 84 (0, 0))) : WInv W' bw ps' hv hs := by
  refine ⟨hb, h.row.kept hk (fun k hq hh => ?_), fun d hd => ?_⟩
  · rcases hh with rfl | hh
    · exact h.row.ne_block h.blk (by decide) hq
    · exact h.row.apart hr (by decide) hq hh
  · have hh := h.holds d hd
    refine hh.kept hk (fun e => ?_) (fun k hq e => ?_) (fun k hq e => ?_) (fun k hq e => ?_)
    · rcases e with e | e
      · have := h.blk; rw [← e, hh.blk] at this; simp at this
      · exact hr.ne_block hh.blk (by decide) e
    · rcases e with rfl | e
      · exact hh.rb.ne_block h.blk (by decide) hq
      · exact hh.rb.apart hr (by decide) hq e
    · rcases e with rfl | e
      · exact hh.rt.ne_block h.blk (by decide) hq
      · exact hh.rt.apart hr (by decide) hq e
    · rcases e with rfl | e
      · exact hh.rw_.ne_block h.blk (by decide) hq
      · exact hh.rw_.apart hr (by decide) hq e

set_option maxRecDepth 20000 in
set_option maxHeartbeats 6400000 in
theorem free_new (own : Nat → Nat) (w : World) (bw : Nat) (ps hv : Value) (hs : List HoldD) (pls : List PlD) (fed : Nat) (o : OpD) (h : Good own w bw ps hv hs pls fed) (hk : o.kind = 3) :
    Calls Tryz.prog 53 #[.pointer (some ⟨bw, 0, none⟩), .agg o.cells] w (StepL own bw hs (fed + o.s.size) w) := by
  obtain ⟨i, hi, hz0, hz1, hz2⟩ := info_parts infoPl
  have HG : Hid (Good own w bw ps hv hs pls fed) := h
  have hmany := h.many
  have hpl := h.inv.prow
  have hplen : (plPtrs pls).length = pls.length := by unfold plPtrs; rw [List.length_map]
  obtain ⟨pa, pc, hpv, -⟩ := hpl.len (by decide)
  rw [hplen, Nat.div_one] at hpv
  subst hpv
  obtain ⟨c0, -, -, hbw⟩ := world_cells h.inv.inv.blk
  have HB : Hid (∀ W, Below (w.heap.size + 1) (w.alloc (.cells o.cells 79)) W → ∀ j, W.cell? ⟨w.heap.size, j, none⟩ = o.cells[j]?) := fun W hW j => op_box hW (by omega) j
  clear h hpl
  obtain ⟨kind, n, source, s, ik, ikey, itime, ivalue, itag, q0, q1, q2, q3⟩ := o
  simp only [OpD.cells] at *
  subst hk
  by_cases hc : isConf q0 q1 q2 q3
  · have hnew := new_on q0 q1 q2 q3 (w.alloc (.cells #[.int .i64 3, .int .i64 n, .int .i64 source, .string s, .int .i64 ik, .string ikey, .int .i64 itime, .int .i64 ivalue, .int .u32 (itag : Int), .int .i64 q0, .int .i64 q1, .int .i64 q2, .int .i64 q3] 79)) hc
    go_enter Tryz.func53, Tryz.ntmps53
    go_wp2_with fail
    refine hnew.mono ?_
    rintro e W1 ⟨g, hg1, rfl, hfl, hb1⟩
    simp only [World.size_alloc] at hg1 hb1
    have hq := HB.out W1 hb1
    have p9 := hq 9
    have p10 := hq 10
    have p11 := hq 11
    have p12 := hq 12
    simp only [List.getElem?_toArray, List.getElem?_cons_zero, List.getElem?_cons_succ] at p9 p10 p11 p12
    have hb01 : Below w.heap.size w W1 := ((Below.refl _ w).alloc (Nat.le_refl _) _).trans (hb1.mono (by omega))
    have Hfl : Hid (FlowOn W1 g ⟨q0, q1, q2, q3⟩ Sp.new (List.replicate 8 []) (fun k => k = g) none) := hfl
    have hs1 := hb1.size
    simp only [World.size_alloc] at hs1
    clear hq hfl hnew hb1
    go_wp2_with fail
    refine (rnew_any q0 q1 q2 q3 W1).mono ?_
    rintro e W2 ⟨hb2, hor⟩
    obtain ⟨g2, hg2, rfl, hblk⟩ : ∃ g, W1.heap.size ≤ g ∧ e = .returned (.tuple #[.pointer (some ⟨g, 0, none⟩), .int .i64 0]) ∧ W2.heap[g]? = some (.cells (RCells.new q0 q1 q2 q3).cells.toArray 140) := by
      rcases hor with ⟨hh, _⟩ | ⟨_, hh⟩
      · exact absurd hc hh
      · exact hh
    clear hor
    have hb02 : Below w.heap.size w W2 := hb01.trans (hb2.mono (by omega))
    have Hfl2 : Hid (FlowOn W2 g ⟨q0, q1, q2, q3⟩ Sp.new (List.replicate 8 []) (fun k => k = g) none) := Hfl.out.below hb2
    have Href : Hid (Ref W2 g2 ⟨q0, q1, q2, q3⟩ Sp.new (List.replicate 8 []) (fun k => k = g2)) := ref_new W2 g2 ⟨q0, q1, q2, q3⟩ hblk
    have hgW1 : g < W1.heap.size := by
      obtain ⟨us, ⟨st, ⟨rr, gs, es, h3, -⟩, -⟩, -⟩ := Hfl.out
      exact h3.lt (.inl rfl)
    have hfr : g ≠ g2 := by omega
    have hs2 := hb2.size
    have hc0 : W2.cell? ⟨bw, 0, none⟩ = some (.slice pa pls.length pc) := (hb02.cell (p := ⟨bw, 0, none⟩) hbw).trans c0
    have HB02 : Hid (Below w.heap.size w W2) := hb02
    clear p9 p10 p11 p12 hb01 hb2 Hfl hblk c0 hb02
    by_cases h4 : pls.length < 4
    · have h4i : (pls.length : Int) < 4 := by omega
      have HP2 : Hid (PInv (growO own w 0) W2 bw (.slice pa pls.length pc) hv hs pls) := HG.out.inv.below HB02.out
      have hrowp := HP2.out.prow
      have HrowA : Hid (Row (W2.alloc (.cells #[.pointer (some ⟨g, 0, none⟩), .pointer (some ⟨g2, 0, none⟩)] 128)) 125 1 (.slice pa pls.length pc) (plPtrs pls)) := hrowp.alloc _
      have Hplen : Hid ((plPtrs pls).length = pls.length) := hplen
      have hbwB : W2.heap[bw]? = some (.cells #[.slice pa pls.length pc, hv] 84 (0, 0)) := HP2.out.inv.blk
      have hbwB2 : (W2.alloc (.cells #[.pointer (some ⟨g, 0, none⟩), .pointer (some ⟨g2, 0, none⟩)] 128)).heap[bw]? = some (.cells #[.slice pa pls.length pc, hv] 84 (0, 0)) := by
        rw [Below.heap_alloc _ _ _ (by omega)]; exact hbwB
      clear hplen hrowp
      have hp4 : (plPtrs pls).length ≤ 4 := by rw [Hplen.out]; omega
      generalize hptrs : plPtrs pls = ptrs at *
      have Hptrs : Hid (plPtrs pls = ptrs) := hptrs
      clear hptrs
      go_wp2_with (at_builtin; go_must (refine wpList_append _ rfl _ _ _ _ rfl 125 i (.pointer none) 1 8 Tryz.underlying81 hi hz0 hz1 hz2 rfl Nat.one_pos (.slice pa pls.length pc) ptrs rfl (HrowA.out.alloc _) (.slice (some ⟨W2.heap.size + 1, 0, none⟩) 1 1) 1 [.pointer (some ⟨W2.heap.size, 0, none⟩)] rfl ?hsrc Nat.one_pos ?h63 ?hby ?next))
      case hsrc => exact Src.ofSlice _ Tryz.underlying81 ⟨W2.heap.size + 1, 0, none⟩ 1 1 _ rfl (fun j u hu => by cases j with | zero => (simp only [List.getElem?_cons_zero, Option.some.injEq] at hu; subst hu; exact blkCell (two_new W2 _ _).2 rfl) | succ j => simp at hu) (by simp [Value.oneCell'])
      case h63 => simp only [maxLen]; omega
      case hby => omega
      intro v1 w1 ha1
      have hbb := App.other ha1 HrowA.out hbwB2 (by decide)
      obtain ⟨e0, e1, fw1, -⟩ := world_cells hbb
      obtain ⟨g1, o1, n1, k1, hv1, -, -⟩ := ha1.row.shape (by simp)
      subst hv1
      have hgr : Grew bw (W2.alloc (.cells #[.pointer (some ⟨g, 0, none⟩), .pointer (some ⟨g2, 0, none⟩)] 128)) (w1.setCell ⟨bw, 0, none⟩ (.slice (some ⟨g1, o1, none⟩) n1 k1)) 125 1 (.slice pa pls.length pc) (.slice (some ⟨g1, o1, none⟩) n1 k1) ptrs [.pointer (some ⟨W2.heap.size, 0, none⟩)] := Grew.of ha1 hbb (by decide)
      have HGr : Hid (Grew bw (W2.alloc (.cells #[.pointer (some ⟨g, 0, none⟩), .pointer (some ⟨g2, 0, none⟩)] 128)) (w1.setCell ⟨bw, 0, none⟩ (.slice (some ⟨g1, o1, none⟩) n1 k1)) 125 1 (.slice pa pls.length pc) (.slice (some ⟨g1, o1, none⟩) n1 k1) ptrs [.pointer (some ⟨W2.heap.size, 0, none⟩)]) := hgr
      have HBs : Hid ((w1.setCell ⟨bw, 0, none⟩ (.slice (some ⟨g1, o1, none⟩) n1 k1)).heap[bw]? = some (.cells #[.slice (some ⟨g1, o1, none⟩) n1 k1, hv] 84 (0, 0))) := heap_setCell_same w1 bw 0 _ _ _ hbb
      clear ha1 hbb hgr hc0
      go_wp2_with fail
      go_ret
      generalize w1.setCell ⟨bw, 0, none⟩ (.slice (some ⟨g1, o1, none⟩) n1 k1) = W3 at *
      generalize Value.slice (some ⟨g1, o1, none⟩) n1 k1 = v1 at *
      have hgr := HGr.out
      have hpsl : ∀ k, (Value.slice pa pls.length pc).ownBlock = some k → k < w.heap.size := fun k hk => (HG.out.inv.prow.blk_lt hk).1
      have hwW2 := HB02.out.size
      have kk : Kept (fun k => k = bw ∨ (Value.slice pa pls.length pc).ownBlock = some k) W2 W3 := ((Kept.refl _ W2).alloc _).step hgr.kept (fun k _ e => e.symm)
      have hplb : W3.heap[W2.heap.size]? = some (.cells #[.pointer (some ⟨g, 0, none⟩), .pointer (some ⟨g2, 0, none⟩)] 128 (0, 0)) := by
        rw [hgr.kept.block W2.heap.size (by simp) (fun e => by
          rcases e with e | e
          · have := hpsl _ e; omega
          · omega)]
        exact heap_alloc_new W2 _
      have hrp : Row W2 125 1 (.slice pa pls.length pc) (plPtrs pls) := HP2.out.prow
      have hnew := HG.out.inv.more HB02.out (by omega) (by omega) hfr Hfl2.out Href.out (CfOk.of hc) kk (Nat.le_refl _) hplb (HP2.out.inv.players hrp kk HBs.out) (by rw [Hptrs.out]; exact hgr.row) (fun k hk => by
        rcases hgr.step with ⟨e, _⟩ | ⟨k', e, e2⟩
        · exact .inl (by rw [← e]; exact hk)
        · rw [e] at hk
          simp only [Option.some.injEq] at hk
          simp only [World.size_alloc] at e2
          exact .inr (by omega))
      refine ⟨by simp, _, _, _, _, _, ⟨hnew, fun q hq => ?_, by rw [List.length_append]; simp only [List.length_cons, List.length_nil]; omega⟩, fun k hk => if_pos hk, ?_, by omega⟩
      · rcases List.mem_append.1 hq with hq | hq
        · exact ⟨(HG.out.even q hq).1, (HG.out.even q hq).2.1, by have := (HG.out.even q hq).2.2; omega⟩
        · rw [List.mem_singleton.1 hq]
          exact ⟨rfl, rfl, Nat.zero_le _⟩
      · refine (Kept.ofBelow HB02.out _).step kk (fun k hk e => ?_)
        rcases e with rfl | e
        · rw [HG.out.inv.obw]; omega
        · rw [HG.out.inv.ops k e]; omega
    · have h4i : ¬ (pls.length : Int) < 4 := by omega
      go_wp2_with fail
      go_ret
      exact ⟨by simp, _, _, _, _, _, (HG.out.mono (by omega)).below HB02.out, fun k hk => growO_old hk, Kept.ofBelow HB02.out _, by omega⟩
  · have hnew := new_no q0 q1 q2 q3 (w.alloc (.cells #[.int .i64 3, .int .i64 n, .int .i64 source, .string s, .int .i64 ik, .string ikey, .int .i64 itime, .int .i64 ivalue, .int .u32 (itag : Int), .int .i64 q0, .int .i64 q1, .int .i64 q2, .int .i64 q3] 79)) hc
    go_enter Tryz.func53, Tryz.ntmps53
    go_wp2_with fail
    refine hnew.mono ?_
    rintro e W1 ⟨rfl, hb1⟩
    simp only [World.size_alloc] at hb1
    have hq := HB.out W1 hb1
    have p9 := hq 9
    have p10 := hq 10
    have p11 := hq 11
    have p12 := hq 12
    simp only [List.getElem?_toArray, List.getElem?_cons_zero, List.getElem?_cons_succ] at p9 p10 p11 p12
    have hb01 : Below w.heap.size w W1 := ((Below.refl _ w).alloc (Nat.le_refl _) _).trans (hb1.mono (by omega))
    have hs1 := hb1.size
    simp only [World.size_alloc] at hs1
    clear hq hnew hb1
    go_wp2_with fail
    refine (rnew_any q0 q1 q2 q3 W1).mono ?_
    rintro e W2 ⟨hb2, hor⟩
    obtain rfl : e = .returned (.tuple #[.pointer none, .int .i64 1]) := by
      rcases hor with ⟨_, hh⟩ | ⟨hh, _⟩
      · exact hh
      · exact absurd hh hc
    clear hor
    have HB02 : Hid (Below w.heap.size w W2) := hb01.trans (hb2.mono (by omega))
    clear p9 p10 p11 p12 hb01 hb2
    go_wp2_with fail
    go_ret
    exact ⟨by simp, _, _, _, _, _, (HG.out.mono (by omega)).below HB02.out, fun k hk => growO_old hk, Kept.ofBelow HB02.out _, by omega⟩

set_option maxRecDepth 20000 in
set_option maxHeartbeats 1600000 in
theorem step_new (own : Nat → Nat) (w : World) (bw : Nat) (ps hv : Value) (hs : List HoldD) (pls : List PlD) (fed : Nat) (o : OpD) (h : Good own w bw ps hv hs pls fed) (hk : o.kind = 3) :
    Calls Tryz.prog 32 #[.pointer (some ⟨bw, 0, none⟩), .agg o.cells] w (StepL own bw hs (fed + o.s.size) w) := by
  have HF : Hid (Calls Tryz.prog 53 #[.pointer (some ⟨bw, 0, none⟩), .agg o.cells] (w.alloc (.cells o.cells 79)) (StepL (growO own w 0) bw hs (fed + o.s.size) (w.alloc (.cells o.cells 79)))) := free_new (growO own w 0) _ bw ps hv hs pls fed o (h.below ((Below.refl _ w).alloc (Nat.le_refl _) _)) hk
  clear h
  obtain ⟨kind, n, source, s, ik, ikey, itime, ivalue, itag, q0, q1, q2, q3⟩ := o
  simp only [OpD.cells] at *
  subst hk
  go_enter Tryz.func32, Tryz.ntmps32
  go_wp2_with fail
  refine HF.out.mono ?_
  rintro e W ⟨rfl, own', ps', hv', hs', pls', h1, h2, h3, h4⟩
  go_wp2
  go_ret
  refine ⟨rfl, own', ps', hv', hs', pls', h1, fun k hk => (h2 k (by simp; omega)).trans (growO_old hk), ((Kept.refl _ w).alloc _).step h3 (fun k hk hh => ?_), h4⟩
  rw [growO_old hk] at hh; exact hh

theorem step_frames (own : Nat → Nat) (w : World) (bw : Nat) (ps hv : Value) (hs : List HoldD) (pls : List PlD) (fed : Nat) (o : OpD) (h : Good own w bw ps hv hs pls fed) (hf : o.Fits) (hk : o.kind = 1 ∨ o.kind = 2) (hl : hs.length + 4 ≤ 17592186044416) :
    Calls Tryz.prog 32 #[.pointer (some ⟨bw, 0, none⟩), .agg o.cells] w (StepL own bw hs (fed + o.s.size) w) := by
  refine (step_any bw ps hv hs o w h.inv.inv hf hk hl).mono ?_
  rintro e w' ⟨rfl, hs', hv', h4, hW, hkW, hq, hn⟩
  have hX : ∀ k, (k = bw ∨ hv.ownBlock = some k) → own k = 0 := fun k hh => by
    rcases hh with rfl | hh
    · exact h.inv.obw
    · exact h.inv.ohv k hh
  refine ⟨rfl, growO own w 0, ps, hv', hs ++ hs', pls, ⟨h.inv.mine hkW (fun k _ hh => hX k hh) hW (h.inv.prow.kept hkW (fun k hp hh => ?_)) (fun k hk => ?_) (fun k hk => .inl (h.inv.ops k hk)) (fun d hd => ?_) (fun p hp => ?_), fun q hq => ⟨(h.even q hq).1, (h.even q hq).2.1, by have := (h.even q hq).2.2; omega⟩, h.many⟩, fun k hk => growO_old hk, hkW.mono (fun k _ hh => by rw [hX k hh]; omega), by rw [List.length_append]; omega⟩
  · rcases hh with rfl | hh
    · exact h.inv.prow.ne_block h.inv.inv.blk (by decide) hp
    · exact h.inv.prow.apart h.inv.inv.row (by decide) hp hh
  · rcases hq k hk with hh | hh
    · exact .inl (h.inv.ohv k hh)
    · exact .inr hh
  · rcases List.mem_append.1 hd with hd | hd
    · obtain ⟨b1, b2, b3, b4⟩ := h.inv.oh d hd
      exact ⟨.inl b1, fun k hk => .inl (b2 k hk), fun k hk => .inl (b3 k hk), fun k hk => .inl (b4 k hk)⟩
    · obtain ⟨b1, b2, b3, b4⟩ := hn d hd
      exact ⟨.inr b1, fun k hk => .inr (b2 k hk), fun k hk => .inr (b3 k hk), fun k hk => .inr (b4 k hk)⟩
  · have hb2 := h.inv.plOther hp
    refine hkW.block p.pb (Array.getElem?_eq_some_iff.1 hb2).1 (fun hh => ?_)
    rcases hh with hh | hh
    · have := h.inv.inv.blk; rw [← hh, hb2] at this; simp at this
    · exact h.inv.inv.row.ne_block hb2 (by decide) hh

set_option maxRecDepth 20000 in
set_option maxHeartbeats 1600000 in
theorem step_void (own : Nat → Nat) (w : World) (bw : Nat) (ps hv : Value) (hs : List HoldD) (fed : Nat) (o : OpD) (h : Good own w bw ps hv hs [] fed) (hk : o.kind < 1 ∨ 3 < o.kind) :
    Calls Tryz.prog 32 #[.pointer (some ⟨bw, 0, none⟩), .agg o.cells] w (StepL own bw hs (fed + o.s.size) w) := by
  have HG : Hid (Good (growO own w 0) (w.alloc (.cells o.cells 79)) bw ps hv hs [] (fed + o.s.size)) := (h.mono (by omega)).below ((Below.refl _ w).alloc (Nat.le_refl _) _)
  have HK : Hid (Kept (fun k => own k ≠ 99) w (w.alloc (.cells o.cells 79))) := (Kept.refl _ w).alloc _
  obtain ⟨c0, -, -, hbw⟩ := world_cells h.inv.inv.blk
  obtain ⟨pa, pc, hpv, -⟩ := h.inv.prow.len (by decide)
  have hpv : ps = .slice pa 0 pc := hpv
  subst hpv
  clear h
  obtain ⟨kind, n, source, s, ik, ikey, itime, ivalue, itag, q0, q1, q2, q3⟩ := o
  simp only [OpD.cells] at *
  rcases hk with hk | hk
  · go_enter Tryz.func32, Tryz.ntmps32
    go_wp2_with fail
    go_ret
    exact ⟨rfl, _, _, _, _, _, HG.out, fun k hk => growO_old hk, HK.out, by omega⟩
  · have hk1 : 1 ≤ kind := by omega
    go_enter Tryz.func32, Tryz.ntmps32
    go_wp2_with fail
    go_ret
    exact ⟨rfl, _, _, _, _, _, HG.out, fun k hk => growO_old hk, HK.out, by omega⟩

/-- Any step up to Counts. -/
theorem step_lines (own : Nat → Nat) (w : World) (bw : Nat) (ps hv : Value) (hs : List HoldD) (pls : List PlD) (fed : Nat) (o : OpD) (h : Good own w bw ps hv hs pls fed) (hf : o.Fits) (hn1 : -9223372036854775808 ≤ o.n) (hn2 : o.n ≤ 9223372036854775807) (hk : o.kind ≤ 8) (hff : fed + o.s.size ≤ 5000000) (hl : hs.length + 4 ≤ 17592186044416) :
    Calls Tryz.prog 32 #[.pointer (some ⟨bw, 0, none⟩), .agg o.cells] w (StepL own bw hs (fed + o.s.size) w) := by
  by_cases h12 : o.kind = 1 ∨ o.kind = 2
  · exact step_frames own w bw ps hv hs pls fed o h hf h12 hl
  · by_cases h3 : o.kind = 3
    · exact step_new own w bw ps hv hs pls fed o h h3
    · by_cases hp : 0 < pls.length
      · by_cases h0 : o.kind < 1
        · exact step_none own w bw ps hv hs pls fed o h hf hn1 hn2 hp h0 hff
        · have : o.kind = 4 ∨ o.kind = 5 ∨ o.kind = 6 ∨ o.kind = 7 ∨ o.kind = 8 := by omega
          rcases this with hh | hh | hh | hh | hh
          · exact step_open own w bw ps hv hs pls fed o h hf hn1 hn2 hp hh hff
          · exact step_feed own w bw ps hv hs pls fed o h hf hn1 hn2 hp hh hff hl
          · exact step_close own w bw ps hv hs pls fed o h hf hn1 hn2 hp hh hff
          · exact step_line own w bw ps hv hs pls fed o h hf hn1 hn2 hp hh hff
          · exact step_counts own w bw ps hv hs pls fed o h hf hn1 hn2 hp hh hff
      · have : pls = [] := List.eq_nil_of_length_eq_zero (by omega)
        subst this
        exact step_void own w bw ps hv hs fed o h (by omega)
end Go.Proofs.YtcfngdnmpogaoaaGreat

namespace Go.Proofs.YtcfngdnmpogaoaaGreat
open Go.RowKit

set_option maxHeartbeats 1600000 in
theorem upTo_empty (a : Option Addr) (cap : Nat) (w : World) :
    Calls Tryz.prog 13 #[.slice a 0 cap, .int .i64 1, .int .i64 2] w fun e w' => e = .returned (.int .i64 (-1)) ∧ Below w.heap.size w w' := by
  go_enter Tryz.func13, Tryz.ntmps13
  go_wp2
  refine wp_loop_rounds 1 ?_
  rw [rounds_succ]
  go_wp2
  go_ret
  exact ⟨rfl, (Below.refl _ w).alloc (Nat.le_refl _) _⟩

def keyA : ByteArray := ⟨#[97]⟩
def exS : List UInt8 := frameBytes 1 keyA 3 7 1
def exT : List UInt8 := frameBytes 1 keyA 12 (-2) 1
def exM : List UInt8 := frameBytes 2 ⟨#[]⟩ 22 0 0

theorem item_mark : isItemB 2 ⟨#[]⟩ 0 ((0 : Nat) : Int) = true := by
  have h : (⟨#[]⟩ : ByteArray).toList = [] := by rw [ByteArray.toList_eq]
  simp [isItemB, h]

theorem exS_any (w : World) : Calls Tryz.prog 31 #[.agg #[.int .i64 1, .string ⟨#[97]⟩, .int .i64 3, .int .i64 7, .int .u32 1]] w fun e w' => e = .returned (.tuple #[.string (str exS), .int .i64 0]) ∧ Below w.heap.size w w' :=
  rframe_yes 1 keyA 3 7 1 w (by decide) (by decide) (by decide)
theorem exT_any (w : World) : Calls Tryz.prog 31 #[.agg #[.int .i64 1, .string ⟨#[97]⟩, .int .i64 12, .int .i64 (-2), .int .u32 1]] w fun e w' => e = .returned (.tuple #[.string (str exT), .int .i64 0]) ∧ Below w.heap.size w w' :=
  rframe_yes 1 keyA 12 (-2) 1 w (by decide) (by decide) (by decide)
theorem exM_any (w : World) : Calls Tryz.prog 31 #[.agg #[.int .i64 2, .string ⟨#[]⟩, .int .i64 22, .int .i64 0, .int .u32 0]] w fun e w' => e = .returned (.tuple #[.string (str exM), .int .i64 0]) ∧ Below w.heap.size w w' :=
  rframe_yes 2 ⟨#[]⟩ 22 0 0 w (by decide) item_mark (by decide)
theorem exS_len : (str exS).size = 26 := by rw [str_size]; decide
theorem exT_len : (str exT).size = 26 := by rw [str_size]; decide
theorem exM_len : (str exM).size = 12 := by rw [str_size]; decide

theorem wpList_build {P : Program} {w : World} {ops : Array Oper} {rest : List Oper} {o : Oper} {a : Act} {Q : Exit → Act → World → Prop} (t : TypeId) (len : Nat) (parts : Array (Nat × Operand))
    (ho : o.op = .buildSlice t len parts) (hgd : o.guard = none) {v' : Value} {w' : World}
    (hr : (Instr.buildSlice t len (parts.map fun (i, x) => (i, a.eval x))).run P w = .ok v' w') (h : wpList P ops Q rest (a.put o.dst v') w') : wpList P ops Q (o :: rest) a w :=
  wpList_plain hgd fun _ hK => by
    unfold Oper.wp execOp
    simp only [ho, Sem.run_bind, Sem.run_pure, hr, Result.andThen_ok]
    exact hK _ _ h

def opsCells : List OpD → List Value
  | [] => []
  | o :: l => o.cells.toList ++ opsCells l
theorem cells_len (o : OpD) : o.cells.toList.length = 13 := rfl
theorem opsCells_get (l : List OpD) (i j : Nat) (hi : i < l.length) (hj : j < 13) : (opsCells l)[i * 13 + j]? = (l[i]).cells[j]? := by
  induction l generalizing i with
  | nil => simp at hi
  | cons o l ih =>
    have hl := cells_len o
    cases i with
    | zero => rw [opsCells, List.getElem?_append_left (by omega)]; simp
    | succ i =>
      rw [opsCells, List.getElem?_append_right (by omega), hl, show (i + 1) * 13 + j - 13 = i * 13 + j from by omega]
      simpa using ih i (by simpa using hi)

def opZ (kind : Int) : OpD := ⟨kind, 0, 0, ⟨#[]⟩, 0, ⟨#[]⟩, 0, 0, 0, 0, 0, 0, 0⟩
def exOps (S M1 M2 : ByteArray) : List OpD :=
  [⟨1, 0, 0, ⟨#[]⟩, 1, ⟨#[97]⟩, 3, 7, 1, 0, 0, 0, 0⟩, ⟨1, 0, 0, ⟨#[]⟩, 1, ⟨#[]⟩, 0, 0, 0, 0, 0, 0, 0⟩, ⟨2, 0, 0, S, 0, ⟨#[]⟩, 0, 0, 0, 0, 0, 0, 0⟩, ⟨3, 0, 0, ⟨#[]⟩, 0, ⟨#[]⟩, 0, 0, 0, 10, 5, 2, 2⟩, opZ 4, ⟨4, 0, 9, ⟨#[]⟩, 0, ⟨#[]⟩, 0, 0, 0, 0, 0, 0, 0⟩,
   ⟨5, 0, 0, S, 0, ⟨#[]⟩, 0, 0, 0, 0, 0, 0, 0⟩, opZ 7, opZ 9, ⟨5, 0, 0, M1, 0, ⟨#[]⟩, 0, 0, 0, 0, 0, 0, 0⟩, ⟨5, 0, 0, M2, 0, ⟨#[]⟩, 0, 0, 0, 0, 0, 0, 0⟩, opZ 7, opZ 8, opZ 9]

theorem ex_build (W : World) (S M1 M2 : ByteArray) : (Instr.buildSlice 22 14 (((exOps S M1 M2).zipIdx.map fun (o, i) => (i, Value.agg o.cells)).toArray)).run Tryz.prog W =
    .ok (.slice (some ⟨W.heap.size, 0, none⟩) 14 14) (W.alloc (.cells (opsCells (exOps S M1 M2)).toArray 79)) := by kernel_rfl

set_option maxRecDepth 20000 in
set_option maxHeartbeats 1600000 in
theorem example_frames (w : World) :
    Calls Tryz.prog 12 #[.int .i64 1, .int .i64 2] w fun e w' => e = .returned (.bool true) ∧ Below w.heap.size w w' := by
  go_enter Tryz.func12, Tryz.ntmps12
  go_wp2_with fail
  refine (exS_any _).mono ?_
  rintro e W1 ⟨rfl, hb1⟩
  simp only [World.size_alloc] at hb1
  have HC : Hid (∀ W, Below (w.heap.size + 1 + 1) ((w.alloc (.cells #[.int .i64 1, .string ⟨#[97]⟩, .int .i64 3, .int .i64 7, .int .u32 1] 28)).alloc (.cells #[.int .i64 1, .string ⟨#[97]⟩, .int .i64 12, .int .i64 (-2), .int .u32 1] 28)) W →
      (W.heap[w.heap.size]? = some (.cells #[.int .i64 1, .string ⟨#[97]⟩, .int .i64 3, .int .i64 7, .int .u32 1] 28 (0, 0)) ∧ W.heap[w.heap.size + 1]? = some (.cells #[.int .i64 1, .string ⟨#[97]⟩, .int .i64 12, .int .i64 (-2), .int .u32 1] 28 (0, 0))) ∧ w.heap.size + 2 ≤ W.heap.size) := by
    intro W hW
    have hs := hW.size
    simp only [World.size_alloc] at hs
    exact ⟨⟨(hW.block _ (by omega)).trans (heap_alloc2_old w _ _), (hW.block _ (by omega)).trans (heap_alloc2_new w _ _)⟩, by omega⟩
  have Hb1 : Hid (Below (w.heap.size + 1 + 1) ((w.alloc (.cells #[.int .i64 1, .string ⟨#[97]⟩, .int .i64 3, .int .i64 7, .int .u32 1] 28)).alloc (.cells #[.int .i64 1, .string ⟨#[97]⟩, .int .i64 12, .int .i64 (-2), .int .u32 1] 28)) W1) := hb1
  obtain ⟨⟨hA, hB⟩, hs1⟩ := HC.out _ hb1
  clear hb1
  obtain ⟨b0, b1, b2, b3, b4⟩ := item_cells hB
  clear hA hB
  go_wp2_with fail
  refine (exT_any _).mono ?_
  rintro e W2 ⟨rfl, hb2⟩
  have Hb2 : Hid (Below (w.heap.size + 1 + 1) ((w.alloc (.cells #[.int .i64 1, .string ⟨#[97]⟩, .int .i64 3, .int .i64 7, .int .u32 1] 28)).alloc (.cells #[.int .i64 1, .string ⟨#[97]⟩, .int .i64 12, .int .i64 (-2), .int .u32 1] 28)) W2) := Hb1.out.trans (hb2.mono (by omega))
  have hs2 := hb2.size
  clear b0 b1 b2 b3 b4 hb2 Hb1
  go_wp2_with fail
  refine (exM_any _).mono ?_
  rintro e W3 ⟨rfl, hb3⟩
  have Hb3 : Hid (Below (w.heap.size + 1 + 1) ((w.alloc (.cells #[.int .i64 1, .string ⟨#[97]⟩, .int .i64 3, .int .i64 7, .int .u32 1] 28)).alloc (.cells #[.int .i64 1, .string ⟨#[97]⟩, .int .i64 12, .int .i64 (-2), .int .u32 1] 28)) W3) := Hb2.out.trans (hb3.mono (by omega))
  have hs3 := hb3.size
  obtain ⟨⟨hA, hB⟩, -⟩ := HC.out _ Hb3.out
  obtain ⟨a0, a1, a2, a3, a4⟩ := item_cells hA
  have HbW : Hid (Below w.heap.size w W3) := (((Below.refl _ w).alloc (Nat.le_refl _) _).alloc (by simp) _).trans (Hb3.out.mono (by omega))
  clear hb3 Hb2 hA hB HC Hb3
  have l1 := exS_len
  have l2 := exT_len
  have l3 := exM_len
  have hcat : str exS ++ str exT = str (exS ++ exT) := str_app _ _
  have hm1 : (str exM).extract 0 4 = str (exM.take 4) := by rw [extract_str, str_data]; rfl
  have hm2 : (str exM).extract 4 12 = str (exM.drop 4) := by rw [extract_str, str_data]; rfl
  have lst : (exS ++ exT).length = 52 := by rw [List.length_append, ← str_size, ← str_size, l1, l2]
  have lm : exM.length = 12 := by rw [← str_size, l3]
  have L1 : Hid ((exS ++ exT).length = 52) := lst
  have L3 : Hid (exM.length = 12) := lm
  clear lst lm
  have hM1 : (exM.take 4).length ≤ 12 := by rw [List.length_take]; omega
  generalize exS ++ exT = ST at *
  generalize exM.take 4 = M1 at *
  go_wp2_with fail
  refine wp_region_still_tail 27 (by kernel_rfl) (by kernel_rfl) ?_
  simp only [List.take_succ_cons, List.take_zero, List.drop_succ_cons, List.drop_zero]
  change wpStill Tryz.prog _ W3.drew (fun a' => wpList Tryz.prog _ _ _ a' W3.drew) _ _
  have a0 : W3.drew.cell? ⟨w.heap.size, 0, none⟩ = some (.int .i64 1) := a0
  have a1 : W3.drew.cell? ⟨w.heap.size, 1, none⟩ = some (.string ⟨#[97]⟩) := a1
  have a2 : W3.drew.cell? ⟨w.heap.size, 2, none⟩ = some (.int .i64 3) := a2
  have a3 : W3.drew.cell? ⟨w.heap.size, 3, none⟩ = some (.int .i64 7) := a3
  have a4 : W3.drew.cell? ⟨w.heap.size, 4, none⟩ = some (.int .u32 1) := a4
  have HbW : Hid (Below w.heap.size w W3.drew) := HbW.out.drew
  generalize W3.drew = W4 at *
  repeat still_step
  refine wpStill_nil ?_
  have hM2 : (exM.drop 4).length = 8 := by rw [List.length_drop, L3.out]
  generalize exM.drop 4 = M2 at *
  refine wpList_build (v' := .slice (some ⟨W4.heap.size, 0, none⟩) 14 14) (w' := W4.alloc (.cells (opsCells (exOps (str ST) (str M1) (str M2))).toArray 79)) _ _ _ rfl rfl (by kernel_rfl) ?_
  have hSc : Script (W4.alloc (.cells (opsCells (exOps (str ST) (str M1) (str M2))).toArray 79)) W4.heap.size 0 (exOps (str ST) (str M1) (str M2)) := fun i hi j hj => by
    rw [cell_of_row _ _ _ _ _ _ (heap_alloc_new W4 _), Nat.zero_add]
    rw [← opsCells_get _ i j hi hj]; simp
  have hFit : ∀ o ∈ exOps (str ST) (str M1) (str M2), o.Fits := by
    intro o ho
    have e0 : (⟨#[]⟩ : ByteArray).size = 0 := rfl
    have e1 : (⟨#[97]⟩ : ByteArray).size = 1 := rfl
    have e2 : (str ST).size = 52 := by rw [str_size]; exact L1.out
    have e3 : (str M1).size ≤ 12 := by rw [str_size]; exact hM1
    have e4 : (str M2).size = 8 := by rw [str_size]; exact hM2
    simp only [exOps, opZ, List.mem_cons, List.not_mem_nil, or_false] at ho
    rcases ho with rfl | rfl | rfl | rfl | rfl | rfl | rfl | rfl | rfl | rfl | rfl | rfl | rfl | rfl <;> exact ⟨by simp only; omega, by simp only; omega, by simp only; omega⟩
  have HU : Hid (Calls Tryz.prog 13 #[.slice (some ⟨W4.heap.size, 0, none⟩) 14 14, .int .i64 1, .int .i64 2] (W4.alloc (.cells (opsCells (exOps (str ST) (str M1) (str M2))).toArray 79)) fun e w' => e = .returned (.int .i64 (-1)) ∧ Below (W4.alloc (.cells (opsCells (exOps (str ST) (str M1) (str M2))).toArray 79)).heap.size (W4.alloc (.cells (opsCells (exOps (str ST) (str M1) (str M2))).toArray 79)) w') :=
    upTo_frames W4.heap.size 0 14 (exOps (str ST) (str M1) (str M2)) _ hSc (by simp) hFit (by simp [exOps])
  have HB5 : Hid (Below w.heap.size w (W4.alloc (.cells (opsCells (exOps (str ST) (str M1) (str M2))).toArray 79))) := HbW.out.alloc (HbW.out.size) _
  clear hSc hFit
  have hsW := HB5.out.size
  generalize W4.alloc (.cells (opsCells (exOps (str ST) (str M1) (str M2))).toArray 79) = W5 at *
  go_wp2_with fail
  refine HU.out.mono ?_
  rintro e W6 ⟨rfl, hb6⟩
  go_wp2
  go_ret
  exact ⟨rfl, HB5.out.trans (hb6.mono hsW)⟩

end Go.Proofs.YtcfngdnmpogaoaaGreat

/-
  A script played: UpTo from New to Counts; the document's example.
-/
namespace Go.Proofs.YtcfngdnmpogaoaaGreat
open Go.RowKit

def OpD.FitsN (o : OpD) : Prop := o.Fits ∧ -9223372036854775808 ≤ o.n ∧ o.n ≤ 9223372036854775807
def fedS (ops : List OpD) : Nat := (ops.map fun o => o.s.size).sum
theorem fedS_take (ops : List OpD) (k : Nat) (h : k < ops.length) : fedS (ops.take (k + 1)) = fedS (ops.take k) + (ops[k]).s.size := by
  unfold fedS
  rw [List.take_succ_eq_append_getElem h, List.map_append, List.sum_append]; simp
theorem fedS_le (ops : List OpD) (k : Nat) : fedS (ops.take k) ≤ fedS ops := by
  have h := congrArg fedS (List.take_append_drop k ops)
  unfold fedS at *
  rw [List.map_append, List.sum_append] at h; omega

/-- The state of UpTo's loop. -/
structure UInv (w wr : World) (ops : List OpD) (k : Nat) (own : Nat → Nat) (ps hv : Value) (hs : List HoldD) (pls : List PlD) : Prop where
  good : Good own wr w.heap.size ps hv hs pls (fedS (ops.take k))
  far : ∀ j, j < w.heap.size → own j = 99
  below : Below w.heap.size w wr
  few : hs.length ≤ 4 * k

def own99 (w : World) (k : Nat) : Nat := if k < w.heap.size then 99 else 0
theorem UInv.start (w : World) (ops : List OpD) : UInv w (w.alloc (.cells #[.slice none 0 0, .slice none 0 0] 84)) ops 0 (own99 w) (.slice none 0 0) (.slice none 0 0) [] [] :=
  ⟨⟨⟨⟨heap_alloc_new w _, Row.nil _ _ _, by simp⟩, Row.nil _ _ _, if_neg (by omega), by simp [Value.ownBlock], by simp [Value.ownBlock], by simp, fun i p hp => by simp at hp⟩, fun p hp => by simp at hp, by simp⟩, fun j hj => if_pos hj, (Below.refl _ w).alloc (Nat.le_refl _) _, by simp⟩

theorem UInv.skip {w wr : World} {ops : List OpD} {k : Nat} {own : Nat → Nat} {ps hv : Value} {hs : List HoldD} {pls : List PlD} (h : UInv w wr ops k own ps hv hs pls) (hk : k < ops.length) : UInv w wr ops (k + 1) own ps hv hs pls :=
  ⟨h.good.mono (by rw [fedS_take ops k hk]; omega), h.far, h.below, by have := h.few; omega⟩

/-- Behind a step, and behind a look. -/
theorem UInv.next {w wr W W2 : World} {ops : List OpD} {k : Nat} {own own' : Nat → Nat} {ps hv ps' hv' : Value} {hs hs' : List HoldD} {pls pls' : List PlD} (h : UInv w wr ops k own ps hv hs pls) (hk : k < ops.length) (h1 : Good own' W w.heap.size ps' hv' hs' pls' (fedS (ops.take k) + (ops[k]).s.size)) (h2 : ∀ j, j < wr.heap.size → own' j = own j) (h3 : Kept (fun j => own j ≠ 99) wr W) (h4 : hs'.length ≤ hs.length + 4) (hb : Below W.heap.size W W2) :
    UInv w W2 ops (k + 1) (growO own' W 0) ps' hv' hs' pls' := by
  have hs1 := h.below.size
  have hs3 := h3.size
  have hb1 : Below w.heap.size w W := h.below.trans (h3.toBelow hs1 (fun j hj hh => hh (h.far j hj)))
  refine ⟨?_, fun j hj => ?_, hb1.trans (hb.mono (by omega)), by have := h.few; omega⟩
  · rw [fedS_take ops k hk]; exact h1.below hb
  · rw [growO_old (by omega), h2 j (by omega)]; exact h.far j hj

set_option maxRecDepth 20000 in
set_option maxHeartbeats 3200000 in
theorem upTo_lines (b off cap : Nat) (ops : List OpD) (w : World) (hsc : Script w b off ops) (hb : b < w.heap.size) (hf : ∀ o ∈ ops, o.FitsN) (hl : ops.length ≤ 1172812402961) (hsum : fedS ops ≤ 5000000) :
    Calls Tryz.prog 13 #[.slice (some ⟨b, off, none⟩) ops.length cap, .int .i64 3, .int .i64 8] w fun e w' => e = .returned (.int .i64 (-1)) ∧ Below w.heap.size w w' := by
  have Hsc : Hid (Script w b off ops) := hsc
  have Hf : Hid (∀ o ∈ ops, o.FitsN) := hf
  clear hsc hf
  go_enter Tryz.func13, Tryz.ntmps13
  go_wp2
  go_loopw [8] (fun i wr => ∃ (k : Nat) (own : Nat → Nat) (ps hv : Value) (hs : List HoldD) (pls : List PlD), k ≤ ops.length ∧ i = .int .i64 (k : Int) ∧ UInv w wr ops k own ps hv hs pls) (fun i _ => ops.length - (intOf i).toNat)
  case atStart => exact ⟨0, _, _, _, _, _, Nat.zero_le _, rfl, UInv.start w ops⟩
  case round =>
    obtain ⟨k, own, ps, hv, hs, pls, hk, rfl, hU⟩ := hrel
    have HU : Hid (UInv w wr ops k own ps hv hs pls) := hU
    clear hU
    by_cases hkn : k < ops.length
    · have hcell : ∀ j, j < 13 → wr.cell? ⟨b, off + (k * 13 + j), none⟩ = (ops[k]).cells[j]? := fun j hj => by
        rw [HU.out.below.cell (by exact hb)]; exact Hsc.out k hkn j hj
      have hof := Hf.out ops[k] (List.getElem_mem hkn)
      have hfe := fedS_take ops k hkn
      have hfl := fedS_le ops (k + 1)
      have hfew := HU.out.few
      have HNext : Hid (∀ (own' : Nat → Nat) (W W2 : World) ps' hv' hs' pls', Good own' W w.heap.size ps' hv' hs' pls' (fedS (ops.take k) + (ops[k]).s.size) → (∀ j, j < wr.heap.size → own' j = own j) → Kept (fun j => own j ≠ 99) wr W → hs'.length ≤ hs.length + 4 → Below W.heap.size W W2 → UInv w W2 ops (k + 1) (growO own' W 0) ps' hv' hs' pls') := fun own' W W2 ps' hv' hs' pls' a1 a2 a3 a4 a5 => HU.out.next hkn a1 a2 a3 a4 a5
      have HSkip : Hid (UInv w wr ops (k + 1) own ps hv hs pls) := HU.out.skip hkn
      rw [hfe] at hfl
      generalize ops[k] = o at *
      have h0 := hcell 0 (by omega)
      have h1 := hcell 1 (by omega)
      have h2 := hcell 2 (by omega)
      have h3 := hcell 3 (by omega)
      have h4 := hcell 4 (by omega)
      have h5 := hcell 5 (by omega)
      have h6 := hcell 6 (by omega)
      have h7 := hcell 7 (by omega)
      have h8 := hcell 8 (by omega)
      have h9 := hcell 9 (by omega)
      have h10 := hcell 10 (by omega)
      have h11 := hcell 11 (by omega)
      have h12 := hcell 12 (by omega)
      have HS : Hid (o.kind ≤ 8 → Calls Tryz.prog 32 #[.pointer (some ⟨w.heap.size, 0, none⟩), .agg o.cells] wr (StepL own w.heap.size hs (fedS (ops.take k) + o.s.size) wr)) := fun hko => step_lines own wr w.heap.size ps hv hs pls _ o HU.out.good hof.1 hof.2.1 hof.2.2 hko (by omega) (by omega)
      clear hcell hof hfe hfl
      obtain ⟨kind, n, source, s, ik, ikey, itime, ivalue, itag, q0, q1, q2, q3⟩ := o
      simp only [OpD.cells, List.getElem?_toArray, List.getElem?_cons_zero, List.getElem?_cons_succ, Nat.add_zero, ← Nat.add_assoc] at h0 h1 h2 h3 h4 h5 h6 h7 h8 h9 h10 h11 h12 HS HNext
      by_cases hk8 : 8 < kind
      · clear h1 h2 h3 h4 h5 h6 h7 h8 h9 h10 h11 h12
        go_wp2
        go_roundw
        case rel => exact ⟨k + 1, own, ps, hv, hs, pls, by omega, by go_num, HSkip.out⟩
        case measure => simp [intOf]; omega
      · have hko : Hid (kind ≤ 8) := by show _ ≤ _; omega
        by_cases hk3 : kind < 3
        · have hk4 : ¬ kind = 3 := by omega
          go_wp2_with fail
          refine (HS.out hko.out).mono ?_
          rintro e W ⟨rfl, own', ps', hv', hs', pls', a1, a2, a3, a4⟩
          clear h0 h1 h2 h3 h4 h5 h6 h7 h8 h9 h10 h11 h12
          have A1 : Hid (Good own' W w.heap.size ps' hv' hs' pls' (fedS (ops.take k) + s.size)) := a1
          have A2 : Hid (∀ j, j < wr.heap.size → own' j = own j) := a2
          have A3 : Hid (Kept (fun j => own j ≠ 99) wr W) := a3
          clear a1 a2 a3
          go_wp2_with fail
          refine (looks_any w.heap.size _ hv' hs' W A1.out.inv.inv (by omega)).mono ?_
          rintro e W2 ⟨rfl, hb2⟩
          have HN : Hid (UInv w W2 ops (k + 1) (growO own' W 0) ps' hv' hs' pls') := HNext.out own' W W2 ps' hv' hs' pls' A1.out A2.out A3.out a4 hb2
          clear hb2
          go_wp2
          go_roundw
          case rel => exact ⟨k + 1, _, ps', hv', hs', pls', by omega, by go_num, HN.out⟩
          case measure => simp [intOf]; omega
        · have hk4 : 3 ≤ kind := by omega
          go_wp2_with fail
          refine (HS.out hko.out).mono ?_
          rintro e W ⟨rfl, own', ps', hv', hs', pls', a1, a2, a3, a4⟩
          clear h0 h1 h2 h3 h4 h5 h6 h7 h8 h9 h10 h11 h12
          have A1 : Hid (Good own' W w.heap.size ps' hv' hs' pls' (fedS (ops.take k) + s.size)) := a1
          have A2 : Hid (∀ j, j < wr.heap.size → own' j = own j) := a2
          have A3 : Hid (Kept (fun j => own j ≠ 99) wr W) := a3
          clear a1 a2 a3
          go_wp2_with fail
          refine (looks_any w.heap.size _ hv' hs' W A1.out.inv.inv (by omega)).mono ?_
          rintro e W2 ⟨rfl, hb2⟩
          have HN : Hid (UInv w W2 ops (k + 1) (growO own' W 0) ps' hv' hs' pls') := HNext.out own' W W2 ps' hv' hs' pls' A1.out A2.out A3.out a4 hb2
          clear hb2
          go_wp2
          go_roundw
          case rel => exact ⟨k + 1, _, ps', hv', hs', pls', by omega, by go_num, HN.out⟩
          case measure => simp [intOf]; omega
    · go_wp2
      go_ret
      exact ⟨rfl, HU.out.below⟩

set_option maxHeartbeats 1600000 in
theorem upToL_empty (a : Option Addr) (cap : Nat) (w : World) :
    Calls Tryz.prog 13 #[.slice a 0 cap, .int .i64 3, .int .i64 8] w fun e w' => e = .returned (.int .i64 (-1)) ∧ Below w.heap.size w w' := by
  go_enter Tryz.func13, Tryz.ntmps13
  go_wp2
  refine wp_loop_rounds 1 ?_
  rw [rounds_succ]
  go_wp2
  go_ret
  exact ⟨rfl, (Below.refl _ w).alloc (Nat.le_refl _) _⟩
end Go.Proofs.YtcfngdnmpogaoaaGreat
