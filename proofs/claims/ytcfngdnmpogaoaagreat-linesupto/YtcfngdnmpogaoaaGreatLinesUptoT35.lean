import Derived.Test.YtcfngdnmpogaoaaGreatLinesUptoT34

/-
  One player more.
-/
namespace Go.Proofs.YtcfngdnmpogaoaaGreat
open Go.RowKit

def ownNew (own : Nat → Nat) (w : World) (i f r k : Nat) : Nat := if k < w.heap.size then own k else if k = f then 2 * i + 1 else if k = r then 2 * i + 2 else 0

theorem PInv.more {own : Nat → Nat} {w W W' : World} {bw pb f r : Nat} {ps hv ps' : Value} {hs : List HoldD} {pls : List PlD} {c : Cf} (h : PInv own w bw ps hv hs pls) (hb : Below w.heap.size w W) (hf : w.heap.size ≤ f) (hr : w.heap.size ≤ r) (hfr : f ≠ r)
    (hfl : FlowOn W f c Sp.new (List.replicate 8 []) (fun k => k = f) none) (hrf : Ref W r c Sp.new (List.replicate 8 []) (fun k => k = r)) (hc : CfOk c)
    (hk : Kept (fun k => k = bw ∨ ps.ownBlock = some k) W W') (hpb : W.heap.size ≤ pb) (hblk : W'.heap[pb]? = some (.cells #[.pointer (some ⟨f, 0, none⟩), .pointer (some ⟨r, 0, none⟩)] 128 (0, 0)))
    (hinv : WInv W' bw ps' hv hs) (hrow : Row W' 125 1 ps' (plPtrs pls ++ [.pointer (some ⟨pb, 0, none⟩)])) (hps : ∀ k, ps'.ownBlock = some k → ps.ownBlock = some k ∨ W.heap.size ≤ k) :
    PInv (ownNew own w pls.length f r) W' bw ps' hv hs (pls ++ [⟨pb, f, r, c, Sp.new, List.replicate 8 [], Sp.new, List.replicate 8 []⟩]) := by
  have hbw : bw < w.heap.size := (Array.getElem?_eq_some_iff.1 h.inv.blk).1
  have hsz := hb.size
  have hszk := hk.size
  have hfW : f < W.heap.size := by
    obtain ⟨us, ⟨st, ⟨rr, gs, es, h3, -⟩, -⟩, -⟩ := hfl
    exact h3.lt (.inl rfl)
  have hrW : r < W.heap.size := by
    obtain ⟨rr, ds, h3, -⟩ := hrf
    exact h3.rev.rf.lt
  have old : ∀ k, k < w.heap.size → ownNew own w pls.length f r k = own k := fun k hk => if_pos hk
  have far : ∀ k, W.heap.size ≤ k → ownNew own w pls.length f r k = 0 := fun k hk => by
    unfold ownNew
    rw [if_neg (by omega), if_neg (by omega), if_neg (by omega)]
  have ownf : ownNew own w pls.length f r f = 2 * pls.length + 1 := by
    unfold ownNew
    rw [if_neg (by omega), if_pos rfl]
  have ownr : ownNew own w pls.length f r r = 2 * pls.length + 2 := by
    unfold ownNew
    rw [if_neg (by omega), if_neg (fun e => hfr e.symm), if_pos rfl]
  have hpsl : ∀ k, ps.ownBlock = some k → k < w.heap.size := fun k hk => (h.prow.blk_lt hk).1
  have hX : ∀ k, (k = bw ∨ ps.ownBlock = some k) → k < w.heap.size ∧ own k = 0 := fun k hk => by
    rcases hk with rfl | hk
    · exact ⟨hbw, h.obw⟩
    · exact ⟨hpsl k hk, h.ops k hk⟩
  have kw : Kept (fun k => k = bw ∨ ps.ownBlock = some k) w W' := (Kept.ofBelow hb _).trans hk
  have hhold : ∀ d ∈ hs, HoldIn (fun k => ownNew own w pls.length f r k = 0) d := fun d hd => (h.oh d hd).mono (h.inv.holds d hd) (fun k hk h0 => (old k hk).trans h0)
  refine ⟨hinv, ?_, (old bw hbw).trans h.obw, fun k hk => (old k (h.inv.row.blk_lt hk).1).trans (h.ohv k hk), fun k hk => ?_, hhold, fun i p hp => ?_⟩
  · have e : plPtrs (pls ++ [⟨pb, f, r, c, Sp.new, List.replicate 8 [], Sp.new, List.replicate 8 []⟩]) = plPtrs pls ++ [.pointer (some ⟨pb, 0, none⟩)] := by
      unfold plPtrs; rw [List.map_append]; rfl
    rw [e]; exact hrow
  · rcases hps k hk with e | e
    · exact (old k (hpsl k e)).trans (h.ops k e)
    · exact far k e
  · rw [List.getElem?_append] at hp
    split at hp
    · rename_i hi
      have hpl := h.pl i p hp
      have hl := (Array.getElem?_eq_some_iff.1 hpl.blk).1
      have hne : ¬ (p.pb = bw ∨ ps.ownBlock = some p.pb) := by
        rintro (e | e)
        · have := h.inv.blk
          rw [← e, hpl.blk] at this
          simp at this
        · exact h.prow.ne_block hpl.blk (by decide) e
      exact ⟨(kw.block p.pb hl hne).trans hpl.blk, (old _ hl).trans hpl.mine, hpl.code.other kw (fun k _ hx => by rw [(hX k hx).2]; omega) old, hpl.ref.other kw (fun k _ hx => by rw [(hX k hx).2]; omega) old, hpl.conf⟩
    · rename_i hi
      have hi2 : i = pls.length := by
        have := (List.getElem?_eq_some_iff.1 hp).1
        simp at this; omega
      subst hi2
      simp only [Nat.sub_self, List.getElem?_cons_zero, Option.some.injEq] at hp
      subst hp
      refine ⟨hblk, far pb hpb, (hfl.kept hk (fun k e hx => ?_)).mono (fun k e => ?_), ?_, hc⟩
      · have := (hX k hx).1
        omega
      · subst e; exact ⟨ownf, by omega⟩
      · obtain ⟨rr, ds, a1, a2⟩ := hrf
        exact ⟨rr, ds, (a1.kept hk (fun k e hx => by have := (hX k hx).1; omega)).mono (fun k e => by subst e; exact ⟨ownr, by omega⟩), a2⟩
end Go.Proofs.YtcfngdnmpogaoaaGreat

/-
  A script's step at a flow: what both calls leave.
-/
namespace Go.Proofs.YtcfngdnmpogaoaaGreat
open Go.RowKit

/-- All is well: both sides have come to the same. -/
structure Good (own : Nat → Nat) (w : World) (bw : Nat) (ps hv : Value) (hs : List HoldD) (pls : List PlD) (fed : Nat) : Prop where
  inv : PInv own w bw ps hv hs pls
  even : ∀ p ∈ pls, p.sq = p.sp ∧ p.rq = p.rs ∧ heft p.sp p.rs ≤ fed
  many : pls.length ≤ 4

/-- What a step leaves. -/
def StepL (own : Nat → Nat) (bw : Nat) (hs : List HoldD) (fed : Nat) (w : World) (e : Ending) (w' : World) : Prop :=
  e = .returned (.bool true) ∧ ∃ own' ps' hv' hs' pls', Good own' w' bw ps' hv' hs' pls' fed ∧ (∀ k, k < w.heap.size → own' k = own k) ∧ Kept (fun k => own k ≠ 99) w w' ∧ hs'.length ≤ hs.length + 4

theorem Good.mono {own : Nat → Nat} {w : World} {bw : Nat} {ps hv : Value} {hs : List HoldD} {pls : List PlD} {fed fed' : Nat} (h : Good own w bw ps hv hs pls fed) (hf : fed ≤ fed') : Good own w bw ps hv hs pls fed' :=
  ⟨h.inv, fun p hp => ⟨(h.even p hp).1, (h.even p hp).2.1, Nat.le_trans (h.even p hp).2.2 hf⟩, h.many⟩
theorem Good.below {own : Nat → Nat} {w w' : World} {bw : Nat} {ps hv : Value} {hs : List HoldD} {pls : List PlD} {fed : Nat} (h : Good own w bw ps hv hs pls fed) (hb : Below w.heap.size w w') : Good (growO own w 0) w' bw ps hv hs pls fed := ⟨h.inv.below hb, h.even, h.many⟩

theorem codeCall {fn : Nat} {args : Array Value} {v : Value} {own : Nat → Nat} {W : World} {bw : Nat} {ps hv : Value} {hs : List HoldD} {pls : List PlD} (h : PInv own W bw ps hv hs pls) {i : Nat} {p : PlD} (hp : pls[i]? = some p) {sp : Sp} {rs : List (List UInt8)}
    (hcall : ∀ (w : World) (F : Nat → Prop), FlowOn w p.f p.c p.sp p.rs F none → Calls Tryz.prog fn args w fun e w' => e = .returned v ∧ FlowOn w' p.f p.c sp rs (Grown F w) none ∧ Kept F w w') :
    Calls Tryz.prog fn args W fun e w' => e = .returned v ∧ PInv (growO own W (2 * i + 1)) w' bw ps hv hs (pls.set i { p with sp := sp, rs := rs }) ∧ Kept (Own own W (2 * i + 1)) W w' := by
  refine (hcall W _ (h.pl i p hp).code).mono ?_
  rintro e w' ⟨rfl, h1, h2⟩
  exact ⟨rfl, h.code hp h2 h1, h2⟩
theorem refCall {fn : Nat} {args : Array Value} {v : Value} {own : Nat → Nat} {W : World} {bw : Nat} {ps hv : Value} {hs : List HoldD} {pls : List PlD} (h : PInv own W bw ps hv hs pls) {i : Nat} {p : PlD} (hp : pls[i]? = some p) {sp : Sp} {rs : List (List UInt8)}
    (hcall : ∀ (w : World) (G : Nat → Prop), Ref w p.r p.c p.sq p.rq G → Calls Tryz.prog fn args w fun e w' => e = .returned v ∧ Ref w' p.r p.c sp rs (Grown G w) ∧ Kept G w w') :
    Calls Tryz.prog fn args W fun e w' => e = .returned v ∧ PInv (growO own W (2 * i + 2)) w' bw ps hv hs (pls.set i { p with sq := sp, rq := rs }) ∧ Kept (Own own W (2 * i + 2)) W w' := by
  refine (hcall W _ (h.pl i p hp).ref).mono ?_
  rintro e w' ⟨rfl, h1, h2⟩
  exact ⟨rfl, h.refr hp h2 h1, h2⟩

theorem heft_srcLen {w : World} {g : Nat} {c : Cf} {sp : Sp} {rs : List (List UInt8)} {F : Nat → Prop} (h : FlowOn w g c sp rs F none) : sp.src.length = 8 ∧ rs.length = 8 := h.srcLen

/-- Both calls made: a good world again. -/
theorem Good.two {own own2 : Nat → Nat} {w W2 : World} {bw : Nat} {ps hv hv' : Value} {hs hs' : List HoldD} {pls : List PlD} {fed fed' : Nat} (h : Good own w bw ps hv hs pls fed) (hff : fed ≤ fed') {i : Nat} {p : PlD} (_hp : pls[i]? = some p) {sp : Sp} {rs : List (List UInt8)} (hheft : heft sp rs ≤ fed')
    (h2 : PInv own2 W2 bw ps hv' hs' ((pls.set i { p with sp := sp, rs := rs }).set i { ({ p with sp := sp, rs := rs } : PlD) with sq := sp, rq := rs })) : Good own2 W2 bw ps hv' hs' ((pls.set i { p with sp := sp, rs := rs }).set i { ({ p with sp := sp, rs := rs } : PlD) with sq := sp, rq := rs }) fed' := by
  refine ⟨h2, fun q hq => ?_, by rw [List.length_set, List.length_set]; exact h.many⟩
  rw [List.set_set] at hq
  rcases List.mem_or_eq_of_mem_set hq with hq | rfl
  · exact ⟨(h.even q hq).1, (h.even q hq).2.1, Nat.le_trans (h.even q hq).2.2 hff⟩
  · exact ⟨rfl, rfl, hheft⟩
def pickW (c n : Int) : Int := (if c < 0 then -(c + 1) else c) % n
theorem pickW_lt (c n : Int) (hn : 1 ≤ n) : 0 ≤ pickW c n ∧ pickW c n < n := ⟨Int.emod_nonneg _ (by omega), Int.emod_lt_of_pos _ (by omega)⟩
theorem pickL_any (c n : Int) (w : World) (h1 : -9223372036854775808 ≤ c) (h2 : c ≤ 9223372036854775807) (hn : 1 ≤ n) (hn2 : n ≤ 4611686018427387904) :
    Calls Tryz.prog 54 #[.int .i64 c, .int .i64 n] w fun e w' => e = .returned (.int .i64 (pickW c n)) ∧ w' = w := by
  have hz : ¬ n = 0 := by omega
  by_cases hc : c < 0
  · have e0 : wrap64 (c + 1) = c + 1 := by unfold wrap64; omega
    have e1 : wrap64 (-(c + 1)) = -(c + 1) := by unfold wrap64; omega
    obtain ⟨d, hd⟩ : ∃ d, -(c + 1) = d := ⟨_, rfl⟩
    have hd0 : 0 ≤ d := by omega
    have hm : d.tmod n = d % n := Int.tmod_eq_emod_of_nonneg hd0
    have b1 := Int.emod_nonneg d hz
    have b2 := Int.emod_lt_of_pos d (show 0 < n by omega)
    have e2 : IntKind.i64.wrap (d.tmod n) = d % n := by rw [hm, IntKind.wrap_i64]; omega
    have hp : pickW c n = d % n := by rw [pickW, if_pos hc, hd]
    rw [hp]
    rw [hd] at e1
    go_enter Tryz.func54, Tryz.ntmps54
    go_wp2
    go_ret
    exact ⟨rfl, rfl⟩
  · have hm : c.tmod n = c % n := Int.tmod_eq_emod_of_nonneg (by omega)
    have b1 := Int.emod_nonneg c hz
    have b2 := Int.emod_lt_of_pos c (show 0 < n by omega)
    have e2 : IntKind.i64.wrap (c.tmod n) = c % n := by rw [hm, IntKind.wrap_i64]; omega
    have hp : pickW c n = c % n := by rw [pickW, if_neg hc]
    rw [hp]
    go_enter Tryz.func54, Tryz.ntmps54
    go_wp2
    go_ret
    exact ⟨rfl, rfl⟩
end Go.Proofs.YtcfngdnmpogaoaaGreat

/-
  A script's step: Open, Close.
-/
namespace Go.Proofs.YtcfngdnmpogaoaaGreat
open Go.RowKit

set_option maxRecDepth 20000 in
set_option maxHeartbeats 6400000 in
theorem step_open (own : Nat → Nat) (w : World) (bw : Nat) (ps hv : Value) (hs : List HoldD) (pls : List PlD) (fed : Nat) (o : OpD) (h : Good own w bw ps hv hs pls fed) (hf : o.Fits) (hn1 : -9223372036854775808 ≤ o.n) (hn2 : o.n ≤ 9223372036854775807) (hne : 0 < pls.length) (hk : o.kind = 4) (hff : fed + o.s.size ≤ 5000000) :
    Calls Tryz.prog 32 #[.pointer (some ⟨bw, 0, none⟩), .agg o.cells] w (StepL own bw hs (fed + o.s.size) w) := by
  have hmany := h.many
  obtain ⟨i, p, hpi, hp⟩ : ∃ (i : Nat) (p : PlD), pickW o.n (pls.length : Int) = (i : Int) ∧ pls[i]? = some p := by
    obtain ⟨h1, h2⟩ := pickW_lt o.n (pls.length : Int) (by omega)
    exact ⟨(pickW o.n (pls.length : Int)).toNat, pls[(pickW o.n (pls.length : Int)).toNat]'(by omega), by omega, List.getElem?_eq_getElem _⟩
  have hil : i < pls.length := (List.getElem?_eq_some_iff.1 hp).1
  have hpk : ∀ W, Calls Tryz.prog 54 #[.int .i64 o.n, .int .i64 (pls.length : Int)] W fun e w' => e = .returned (.int .i64 (i : Int)) ∧ w' = W := fun W => by
    rw [← hpi]; exact pickL_any o.n pls.length W hn1 hn2 (by omega) (by omega)
  have hpl := h.inv.prow
  have hplen : (plPtrs pls).length = pls.length := by unfold plPtrs; rw [List.length_map]
  obtain ⟨pa, pc, hpv, -⟩ := hpl.len (by decide)
  rw [hplen, Nat.div_one] at hpv
  subst hpv
  obtain ⟨pg, po, rfl⟩ := slice_some hpl (by omega)
  have hpcell : w.cell? ⟨pg, po + i, none⟩ = some (.pointer (some ⟨p.pb, 0, none⟩)) := by
    have := hpl.cell i (by omega)
    rw [this]; unfold plPtrs; rw [List.getElem?_map, hp]; rfl
  have hpgl : pg < w.heap.size := (hpl.blk_lt (k := pg) rfl).1
  have HEven := h.even p (List.mem_of_getElem? hp)
  have HG : Hid (Good own w bw (.slice (some ⟨pg, po, none⟩) pls.length pc) hv hs pls fed) := h
  have HP0 : Hid (PInv (growO own w 0) (w.alloc (.cells o.cells 79)) bw (.slice (some ⟨pg, po, none⟩) pls.length pc) hv hs pls) := h.inv.below ((Below.refl _ w).alloc (Nat.le_refl _) _)
  have hbox := heap_alloc_new w (.cells o.cells 79)
  have HS0 : Hid ((w.alloc (.cells o.cells 79)).heap.size = w.heap.size + 1) := by show _ = _; simp
  have HK0 : Hid (Kept (fun k => own k ≠ 99) w (w.alloc (.cells o.cells 79))) := (Kept.refl _ w).alloc _
  obtain ⟨c0, c1, fw, hbw⟩ := world_cells h.inv.inv.blk
  have hlen0 : ¬ ((pls.length : Nat) : Int) = 0 := by omega
  have hlen1 : ¬ pls.length = 0 := by omega
  have hin : (i : Int) < (pls.length : Int) := by omega
  clear h
  obtain ⟨kind, n, source, s, ik, ikey, itime, ivalue, itag, q0, q1, q2, q3⟩ := o
  simp only [OpD.cells] at *
  subst hk
  have hc0 : (w.alloc (.cells #[.int .i64 4, .int .i64 n, .int .i64 source, .string s, .int .i64 ik, .string ikey, .int .i64 itime, .int .i64 ivalue, .int .u32 (itag : Int), .int .i64 q0, .int .i64 q1, .int .i64 q2, .int .i64 q3] 79)).cell? ⟨bw, 0, none⟩ = some (.slice (some ⟨pg, po, none⟩) pls.length pc) := (((Below.refl w.heap.size w).alloc (Nat.le_refl _) _).cell (p := ⟨bw, 0, none⟩) hbw).trans c0
  have hpc0 : (w.alloc (.cells #[.int .i64 4, .int .i64 n, .int .i64 source, .string s, .int .i64 ik, .string ikey, .int .i64 itime, .int .i64 ivalue, .int .u32 (itag : Int), .int .i64 q0, .int .i64 q1, .int .i64 q2, .int .i64 q3] 79)).cell? ⟨pg, po + i, none⟩ = some (.pointer (some ⟨p.pb, 0, none⟩)) := (((Below.refl w.heap.size w).alloc (Nat.le_refl _) _).cell (p := ⟨pg, po + i, none⟩) hpgl).trans hpcell
  go_enter Tryz.func32, Tryz.ntmps32
  go_upto_region 5 with fail
  clear c0 c1 fw hpcell
  have b0 := fun j => cell_of_row _ _ j _ _ _ hbox
  have b1 := b0 1
  simp only [List.getElem?_toArray, List.getElem?_cons_zero, List.getElem?_cons_succ] at b1
  have HBox : Hid ((w.alloc (.cells #[.int .i64 4, .int .i64 n, .int .i64 source, .string s, .int .i64 ik, .string ikey, .int .i64 itime, .int .i64 ivalue, .int .u32 (itag : Int), .int .i64 q0, .int .i64 q1, .int .i64 q2, .int .i64 q3] 79)).heap[w.heap.size]? = some (.cells #[.int .i64 4, .int .i64 n, .int .i64 source, .string s, .int .i64 ik, .string ikey, .int .i64 itime, .int .i64 ivalue, .int .u32 (itag : Int), .int .i64 q0, .int .i64 q1, .int .i64 q2, .int .i64 q3] 79 (0, 0))) := hbox
  clear b0 hbox
  generalize w.alloc (.cells #[.int .i64 4, .int .i64 n, .int .i64 source, .string s, .int .i64 ik, .string ikey, .int .i64 itime, .int .i64 ivalue, .int .u32 (itag : Int), .int .i64 q0, .int .i64 q1, .int .i64 q2, .int .i64 q3] 79) = W0 at *
  go_quiet ((go_at_call 54; exact Calls.quiet_of_same (hpk _)))
  have HP1 : Hid (PInv (growO (growO own w 0) W0 0) (W0.drewN nq) bw (.slice (some ⟨pg, po, none⟩) pls.length pc) hv hs pls) := HP0.out.below (below_drewN (Below.refl _ W0) nq)
  have HK1 : Hid (Kept (fun k => own k ≠ 99) w (W0.drewN nq)) := HK0.out.drewN nq
  have HS1 : Hid ((W0.drewN nq).heap.size = w.heap.size + 1) := by show _ = _; rw [← HS0.out]; simp
  have HBox1 : Hid ((W0.drewN nq).heap[w.heap.size]? = some (.cells #[.int .i64 4, .int .i64 n, .int .i64 source, .string s, .int .i64 ik, .string ikey, .int .i64 itime, .int .i64 ivalue, .int .u32 (itag : Int), .int .i64 q0, .int .i64 q1, .int .i64 q2, .int .i64 q3] 79 (0, 0))) := by show _ = _; simpa using HBox.out
  have HO1 : Hid (∀ k, k < w.heap.size → growO (growO own w 0) W0 0 k = own k) := fun k hk => (growO_old (by rw [HS0.out]; omega)).trans (growO_old hk)
  have HOB : Hid (growO (growO own w 0) W0 0 w.heap.size = 0) := (growO_old (by rw [HS0.out]; omega)).trans (growO_new (Nat.le_refl _))
  clear HP0 HK0 HS0 HBox b1 hc0 hpc0 hpk
  generalize growO (growO own w 0) W0 0 = own1 at *
  generalize W0.drewN nq = W1 at *
  have b0 : W1.cell? ⟨w.heap.size, 0, none⟩ = some (.int .i64 4) := cell_of_row _ _ 0 _ _ _ HBox1.out
  obtain ⟨hev1, hev2, hev3⟩ := HEven
  obtain ⟨x, sp', hEe, hcode, href⟩ := open_two p.f p.r p.c p.sp p.rs source (HP1.out.pl i p hp).code.srcLen.1
  have hplA := HP1.out.pl i p hp
  have p0 : W1.cell? ⟨p.pb, 0, none⟩ = some (.pointer (some ⟨p.f, 0, none⟩)) := cell_of_row _ _ 0 _ _ _ hplA.blk
  have p1 : W1.cell? ⟨p.pb, 1, none⟩ = some (.pointer (some ⟨p.r, 0, none⟩)) := cell_of_row _ _ 1 _ _ _ hplA.blk
  have b2 : W1.cell? ⟨w.heap.size, 2, none⟩ = some (.int .i64 source) := cell_of_row _ _ 2 _ _ _ HBox1.out
  have HP2 : Hid (PInv (growO own1 W1 0) W1.drew bw (.slice (some ⟨pg, po, none⟩) pls.length pc) hv hs pls) := HP1.out.below (Below.refl _ W1).drew
  have hpbl : p.pb < W1.heap.size := (Array.getElem?_eq_some_iff.1 hplA.blk).1
  have hpbo : own1 p.pb = 0 := hplA.mine
  have hszB : w.heap.size < W1.heap.size := by rw [HS1.out]; omega
  have HC : Hid (∀ (own2 : Nat → Nat) (W : World) (pls2 : List PlD), PInv own2 W bw (.slice (some ⟨pg, po, none⟩) pls.length pc) hv hs pls2 → pls2[i]? = some p → Calls Tryz.prog 22 #[.pointer (some ⟨p.f, 0, none⟩), .int .i64 source] W fun e w' => e = .returned (.int .i64 x) ∧ PInv (growO own2 W (2 * i + 1)) w' bw (.slice (some ⟨pg, po, none⟩) pls.length pc) hv hs (pls2.set i { p with sp := sp', rs := p.rs }) ∧ Kept (Own own2 W (2 * i + 1)) W w') := fun own2 W pls2 hh hpp => codeCall hh hpp hcode
  have HR : Hid (∀ (own2 : Nat → Nat) (W : World) (pls2 : List PlD), PInv own2 W bw (.slice (some ⟨pg, po, none⟩) pls.length pc) hv hs pls2 → pls2[i]? = some { p with sp := sp', rs := p.rs } → Calls Tryz.prog 55 #[.pointer (some ⟨p.r, 0, none⟩), .int .i64 source] W fun e w' => e = .returned (.int .i64 x) ∧ PInv (growO own2 W (2 * i + 2)) w' bw (.slice (some ⟨pg, po, none⟩) pls.length pc) hv hs (pls2.set i { ({ p with sp := sp', rs := p.rs } : PlD) with sq := sp', rq := p.rs }) ∧ Kept (Own own2 W (2 * i + 2)) W w') := fun own2 W pls2 hh hpp => refCall (p := { p with sp := sp', rs := p.rs }) hh hpp (by simp only; rw [hev1, hev2]; exact href)
  have HHeft : Hid (heft sp' p.rs ≤ fed + s.size) := by show heft sp' p.rs ≤ _; unfold heft at *; rw [hEe]; omega
  have hp2 : (pls.set i { p with sp := sp', rs := p.rs })[i]? = some { p with sp := sp', rs := p.rs } := by rw [List.getElem?_set, if_pos rfl, if_pos hil]
  clear hcode href hplA hev1 hev2 hev3
  go_upto_region 8 with fail
  clear b0
  go_region_held3 (fun W => W.cell? ⟨p.pb, 0, none⟩ = some (.pointer (some ⟨p.f, 0, none⟩)) ∧ W.cell? ⟨p.pb, 1, none⟩ = some (.pointer (some ⟨p.r, 0, none⟩)) ∧ W.cell? ⟨w.heap.size, 2, none⟩ = some (.int .i64 source)) (go_keep) (first
    | (go_at_call 22; refine (HC.out _ _ _ HP2.out hp).mono ?_; rintro e V1 ⟨rfl, hq1, hk1⟩; have HQ1 : Hid (PInv (growO (growO own1 W1 0) W1.drew (2 * i + 1)) V1 bw (.slice (some ⟨pg, po, none⟩) pls.length pc) hv hs (pls.set i { p with sp := sp', rs := p.rs })) := hq1; have HKq : Hid (Kept (Own (growO own1 W1 0) W1.drew (2 * i + 1)) W1.drew V1) := hk1; have bp : V1.heap[p.pb]? = W1.heap[p.pb]? := hk1.block p.pb hpbl (fun hh => by have e1 := hh.1; have e2 : growO own1 W1 0 p.pb = 0 := (growO_old hpbl).trans hpbo; omega); have bb : V1.heap[w.heap.size]? = W1.heap[w.heap.size]? := hk1.block w.heap.size hszB (fun hh => by have e1 := hh.1; have e2 : growO own1 W1 0 w.heap.size = 0 := (growO_old hszB).trans HOB.out; omega); have k0 : V1.cell? ⟨p.pb, 0, none⟩ = some (.pointer (some ⟨p.f, 0, none⟩)) := (by rw [← p0]; simp only [World.cell?, bp]); have k1 : V1.cell? ⟨p.pb, 1, none⟩ = some (.pointer (some ⟨p.r, 0, none⟩)) := (by rw [← p1]; simp only [World.cell?, bp]); have k2 : V1.cell? ⟨w.heap.size, 2, none⟩ = some (.int .i64 source) := (by rw [← b2]; simp only [World.cell?, bb]); clear hq1 hk1)
    | (go_at_call 55; refine (HR.out _ _ _ HQ1.out hp2).mono ?_; rintro e V2 ⟨rfl, hq2, hk2⟩; have HQ2 : Hid (PInv (growO (growO (growO own1 W1 0) W1.drew (2 * i + 1)) V1 (2 * i + 2)) V2 bw (.slice (some ⟨pg, po, none⟩) pls.length pc) hv hs ((pls.set i { p with sp := sp', rs := p.rs }).set i { ({ p with sp := sp', rs := p.rs } : PlD) with sq := sp', rq := p.rs })) := hq2; have HKr : Hid (Kept (Own (growO (growO own1 W1 0) W1.drew (2 * i + 1)) V1 (2 * i + 2)) V1 V2) := hk2; have hV1 : W1.heap.size ≤ V1.heap.size := HKq.out.size; have bp2 : V2.heap[p.pb]? = V1.heap[p.pb]? := hk2.block p.pb (by omega) (fun hh => by have e1 := hh.1; have e2 : growO (growO own1 W1 0) W1.drew (2 * i + 1) p.pb = 0 := (growO_old hpbl).trans ((growO_old hpbl).trans hpbo); omega); have bb2 : V2.heap[w.heap.size]? = V1.heap[w.heap.size]? := hk2.block w.heap.size (by omega) (fun hh => by have e1 := hh.1; have e2 : growO (growO own1 W1 0) W1.drew (2 * i + 1) w.heap.size = 0 := (growO_old hszB).trans ((growO_old hszB).trans HOB.out); omega); have l0 : V2.cell? ⟨p.pb, 0, none⟩ = some (.pointer (some ⟨p.f, 0, none⟩)) := (by rw [← k0]; simp only [World.cell?, bp2]); have l1 : V2.cell? ⟨p.pb, 1, none⟩ = some (.pointer (some ⟨p.r, 0, none⟩)) := (by rw [← k1]; simp only [World.cell?, bp2]); have l2 : V2.cell? ⟨w.heap.size, 2, none⟩ = some (.int .i64 source) := (by rw [← k2]; simp only [World.cell?, bb2]); clear hq2 hk2))
  clear p0 p1 b2 k0 k1 k2 l0 l1 l2 bp bb bp2 bb2
  go_wp2_with fail
  go_ret
  have hi4 : i < 4 := by omega
  have hsW : w.heap.size < W1.heap.size := by rw [HS1.out]; omega
  have hsD : W1.drew.heap.size = W1.heap.size := rfl
  have hag : ∀ k, k < w.heap.size → growO own1 W1 0 k = own k := fun k hk => (growO_old (by omega)).trans (HO1.out k hk)
  have hag2 : ∀ k, k < w.heap.size → growO (growO own1 W1 0) W1.drew (2 * i + 1) k = own k := fun k hk => (growO_old (by omega)).trans (hag k hk)
  refine ⟨rfl, _, _, _, _, _, HG.out.two (by omega) hp HHeft.out HQ2.out, fun k hk => (growO_old (by omega)).trans (hag2 k hk), ?_, by omega⟩
  refine (HK1.out.drew.step HKq.out (fun k hk hh => ?_)).step HKr.out (fun k hk hh => ?_)
  · have e1 := hh.1
    rw [hag k hk] at e1; omega
  · have e1 := hh.1
    rw [hag2 k hk] at e1; omega

set_option maxRecDepth 20000 in
set_option maxHeartbeats 6400000 in
theorem step_close (own : Nat → Nat) (w : World) (bw : Nat) (ps hv : Value) (hs : List HoldD) (pls : List PlD) (fed : Nat) (o : OpD) (h : Good own w bw ps hv hs pls fed) (hf : o.Fits) (hn1 : -9223372036854775808 ≤ o.n) (hn2 : o.n ≤ 9223372036854775807) (hne : 0 < pls.length) (hk : o.kind = 6) (hff : fed + o.s.size ≤ 5000000) :
    Calls Tryz.prog 32 #[.pointer (some ⟨bw, 0, none⟩), .agg o.cells] w (StepL own bw hs (fed + o.s.size) w) := by
  have hmany := h.many
  obtain ⟨i, p, hpi, hp⟩ : ∃ (i : Nat) (p : PlD), pickW o.n (pls.length : Int) = (i : Int) ∧ pls[i]? = some p := by
    obtain ⟨h1, h2⟩ := pickW_lt o.n (pls.length : Int) (by omega)
    exact ⟨(pickW o.n (pls.length : Int)).toNat, pls[(pickW o.n (pls.length : Int)).toNat]'(by omega), by omega, List.getElem?_eq_getElem _⟩
  have hil : i < pls.length := (List.getElem?_eq_some_iff.1 hp).1
  have hpk : ∀ W, Calls Tryz.prog 54 #[.int .i64 o.n, .int .i64 (pls.length : Int)] W fun e w' => e = .returned (.int .i64 (i : Int)) ∧ w' = W := fun W => by
    rw [← hpi]; exact pickL_any o.n pls.length W hn1 hn2 (by omega) (by omega)
  have hpl := h.inv.prow
  have hplen : (plPtrs pls).length = pls.length := by unfold plPtrs; rw [List.length_map]
  obtain ⟨pa, pc, hpv, -⟩ := hpl.len (by decide)
  rw [hplen, Nat.div_one] at hpv
  subst hpv
  obtain ⟨pg, po, rfl⟩ := slice_some hpl (by omega)
  have hpcell : w.cell? ⟨pg, po + i, none⟩ = some (.pointer (some ⟨p.pb, 0, none⟩)) := by
    have := hpl.cell i (by omega)
    rw [this]; unfold plPtrs; rw [List.getElem?_map, hp]; rfl
  have hpgl : pg < w.heap.size := (hpl.blk_lt (k := pg) rfl).1
  have HEven := h.even p (List.mem_of_getElem? hp)
  have HG : Hid (Good own w bw (.slice (some ⟨pg, po, none⟩) pls.length pc) hv hs pls fed) := h
  have HP0 : Hid (PInv (growO own w 0) (w.alloc (.cells o.cells 79)) bw (.slice (some ⟨pg, po, none⟩) pls.length pc) hv hs pls) := h.inv.below ((Below.refl _ w).alloc (Nat.le_refl _) _)
  have hbox := heap_alloc_new w (.cells o.cells 79)
  have HS0 : Hid ((w.alloc (.cells o.cells 79)).heap.size = w.heap.size + 1) := by show _ = _; simp
  have HK0 : Hid (Kept (fun k => own k ≠ 99) w (w.alloc (.cells o.cells 79))) := (Kept.refl _ w).alloc _
  obtain ⟨c0, c1, fw, hbw⟩ := world_cells h.inv.inv.blk
  have hlen0 : ¬ ((pls.length : Nat) : Int) = 0 := by omega
  have hlen1 : ¬ pls.length = 0 := by omega
  have hin : (i : Int) < (pls.length : Int) := by omega
  clear h
  obtain ⟨kind, n, source, s, ik, ikey, itime, ivalue, itag, q0, q1, q2, q3⟩ := o
  simp only [OpD.cells] at *
  subst hk
  have hc0 : (w.alloc (.cells #[.int .i64 6, .int .i64 n, .int .i64 source, .string s, .int .i64 ik, .string ikey, .int .i64 itime, .int .i64 ivalue, .int .u32 (itag : Int), .int .i64 q0, .int .i64 q1, .int .i64 q2, .int .i64 q3] 79)).cell? ⟨bw, 0, none⟩ = some (.slice (some ⟨pg, po, none⟩) pls.length pc) := (((Below.refl w.heap.size w).alloc (Nat.le_refl _) _).cell (p := ⟨bw, 0, none⟩) hbw).trans c0
  have hpc0 : (w.alloc (.cells #[.int .i64 6, .int .i64 n, .int .i64 source, .string s, .int .i64 ik, .string ikey, .int .i64 itime, .int .i64 ivalue, .int .u32 (itag : Int), .int .i64 q0, .int .i64 q1, .int .i64 q2, .int .i64 q3] 79)).cell? ⟨pg, po + i, none⟩ = some (.pointer (some ⟨p.pb, 0, none⟩)) := (((Below.refl w.heap.size w).alloc (Nat.le_refl _) _).cell (p := ⟨pg, po + i, none⟩) hpgl).trans hpcell
  go_enter Tryz.func32, Tryz.ntmps32
  go_upto_region 5 with fail
  clear c0 c1 fw hpcell
  have b0 := fun j => cell_of_row _ _ j _ _ _ hbox
  have b1 := b0 1
  simp only [List.getElem?_toArray, List.getElem?_cons_zero, List.getElem?_cons_succ] at b1
  have HBox : Hid ((w.alloc (.cells #[.int .i64 6, .int .i64 n, .int .i64 source, .string s, .int .i64 ik, .string ikey, .int .i64 itime, .int .i64 ivalue, .int .u32 (itag : Int), .int .i64 q0, .int .i64 q1, .int .i64 q2, .int .i64 q3] 79)).heap[w.heap.size]? = some (.cells #[.int .i64 6, .int .i64 n, .int .i64 source, .string s, .int .i64 ik, .string ikey, .int .i64 itime, .int .i64 ivalue, .int .u32 (itag : Int), .int .i64 q0, .int .i64 q1, .int .i64 q2, .int .i64 q3] 79 (0, 0))) := hbox
  clear b0 hbox
  generalize w.alloc (.cells #[.int .i64 6, .int .i64 n, .int .i64 source, .string s, .int .i64 ik, .string ikey, .int .i64 itime, .int .i64 ivalue, .int .u32 (itag : Int), .int .i64 q0, .int .i64 q1, .int .i64 q2, .int .i64 q3] 79) = W0 at *
  go_quiet ((go_at_call 54; exact Calls.quiet_of_same (hpk _)))
  have HP1 : Hid (PInv (growO (growO own w 0) W0 0) (W0.drewN nq) bw (.slice (some ⟨pg, po, none⟩) pls.length pc) hv hs pls) := HP0.out.below (below_drewN (Below.refl _ W0) nq)
  have HK1 : Hid (Kept (fun k => own k ≠ 99) w (W0.drewN nq)) := HK0.out.drewN nq
  have HS1 : Hid ((W0.drewN nq).heap.size = w.heap.size + 1) := by show _ = _; rw [← HS0.out]; simp
  have HBox1 : Hid ((W0.drewN nq).heap[w.heap.size]? = some (.cells #[.int .i64 6, .int .i64 n, .int .i64 source, .string s, .int .i64 ik, .string ikey, .int .i64 itime, .int .i64 ivalue, .int .u32 (itag : Int), .int .i64 q0, .int .i64 q1, .int .i64 q2, .int .i64 q3] 79 (0, 0))) := by show _ = _; simpa using HBox.out
  have HO1 : Hid (∀ k, k < w.heap.size → growO (growO own w 0) W0 0 k = own k) := fun k hk => (growO_old (by rw [HS0.out]; omega)).trans (growO_old hk)
  have HOB : Hid (growO (growO own w 0) W0 0 w.heap.size = 0) := (growO_old (by rw [HS0.out]; omega)).trans (growO_new (Nat.le_refl _))
  clear HP0 HK0 HS0 HBox b1 hc0 hpc0 hpk
  generalize growO (growO own w 0) W0 0 = own1 at *
  generalize W0.drewN nq = W1 at *
  have b0 : W1.cell? ⟨w.heap.size, 0, none⟩ = some (.int .i64 6) := cell_of_row _ _ 0 _ _ _ HBox1.out
  obtain ⟨hev1, hev2, hev3⟩ := HEven
  have hcl : p.sp.E.length ≤ 200000 := by unfold heft at hev3; omega
  obtain ⟨x, sp', rs', hEe, hsm, hcode, href⟩ := close_two p.f p.r p.c p.sp p.rs source (HP1.out.pl i p hp).code.srcLen.1 (HP1.out.pl i p hp).conf hcl (HP1.out.pl i p hp).code.srcLen.2
  have hplA := HP1.out.pl i p hp
  have p0 : W1.cell? ⟨p.pb, 0, none⟩ = some (.pointer (some ⟨p.f, 0, none⟩)) := cell_of_row _ _ 0 _ _ _ hplA.blk
  have p1 : W1.cell? ⟨p.pb, 1, none⟩ = some (.pointer (some ⟨p.r, 0, none⟩)) := cell_of_row _ _ 1 _ _ _ hplA.blk
  have b2 : W1.cell? ⟨w.heap.size, 2, none⟩ = some (.int .i64 source) := cell_of_row _ _ 2 _ _ _ HBox1.out
  have HP2 : Hid (PInv (growO own1 W1 0) W1.drew bw (.slice (some ⟨pg, po, none⟩) pls.length pc) hv hs pls) := HP1.out.below (Below.refl _ W1).drew
  have hpbl : p.pb < W1.heap.size := (Array.getElem?_eq_some_iff.1 hplA.blk).1
  have hpbo : own1 p.pb = 0 := hplA.mine
  have hszB : w.heap.size < W1.heap.size := by rw [HS1.out]; omega
  have HC : Hid (∀ (own2 : Nat → Nat) (W : World) (pls2 : List PlD), PInv own2 W bw (.slice (some ⟨pg, po, none⟩) pls.length pc) hv hs pls2 → pls2[i]? = some p → Calls Tryz.prog 49 #[.pointer (some ⟨p.f, 0, none⟩), .int .i64 source] W fun e w' => e = .returned (.int .i64 x) ∧ PInv (growO own2 W (2 * i + 1)) w' bw (.slice (some ⟨pg, po, none⟩) pls.length pc) hv hs (pls2.set i { p with sp := sp', rs := rs' }) ∧ Kept (Own own2 W (2 * i + 1)) W w') := fun own2 W pls2 hh hpp => codeCall hh hpp hcode
  have HR : Hid (∀ (own2 : Nat → Nat) (W : World) (pls2 : List PlD), PInv own2 W bw (.slice (some ⟨pg, po, none⟩) pls.length pc) hv hs pls2 → pls2[i]? = some { p with sp := sp', rs := rs' } → Calls Tryz.prog 60 #[.pointer (some ⟨p.r, 0, none⟩), .int .i64 source] W fun e w' => e = .returned (.int .i64 x) ∧ PInv (growO own2 W (2 * i + 2)) w' bw (.slice (some ⟨pg, po, none⟩) pls.length pc) hv hs (pls2.set i { ({ p with sp := sp', rs := rs' } : PlD) with sq := sp', rq := rs' }) ∧ Kept (Own own2 W (2 * i + 2)) W w') := fun own2 W pls2 hh hpp => refCall (p := { p with sp := sp', rs := rs' }) hh hpp (by simp only; rw [hev1, hev2]; exact href)
  have HHeft : Hid (heft sp' rs' ≤ fed + s.size) := by show heft sp' rs' ≤ _; unfold heft at *; rw [hEe]; omega
  have hp2 : (pls.set i { p with sp := sp', rs := rs' })[i]? = some { p with sp := sp', rs := rs' } := by rw [List.getElem?_set, if_pos rfl, if_pos hil]
  clear hcode href hplA hev1 hev2 hev3
  go_upto_region 17 with fail
  clear b0
  go_region_held3 (fun W => W.cell? ⟨p.pb, 0, none⟩ = some (.pointer (some ⟨p.f, 0, none⟩)) ∧ W.cell? ⟨p.pb, 1, none⟩ = some (.pointer (some ⟨p.r, 0, none⟩)) ∧ W.cell? ⟨w.heap.size, 2, none⟩ = some (.int .i64 source)) (go_keep) (first
    | (go_at_call 49; refine (HC.out _ _ _ HP2.out hp).mono ?_; rintro e V1 ⟨rfl, hq1, hk1⟩; have HQ1 : Hid (PInv (growO (growO own1 W1 0) W1.drew (2 * i + 1)) V1 bw (.slice (some ⟨pg, po, none⟩) pls.length pc) hv hs (pls.set i { p with sp := sp', rs := rs' })) := hq1; have HKq : Hid (Kept (Own (growO own1 W1 0) W1.drew (2 * i + 1)) W1.drew V1) := hk1; have bp : V1.heap[p.pb]? = W1.heap[p.pb]? := hk1.block p.pb hpbl (fun hh => by have e1 := hh.1; have e2 : growO own1 W1 0 p.pb = 0 := (growO_old hpbl).trans hpbo; omega); have bb : V1.heap[w.heap.size]? = W1.heap[w.heap.size]? := hk1.block w.heap.size hszB (fun hh => by have e1 := hh.1; have e2 : growO own1 W1 0 w.heap.size = 0 := (growO_old hszB).trans HOB.out; omega); have k0 : V1.cell? ⟨p.pb, 0, none⟩ = some (.pointer (some ⟨p.f, 0, none⟩)) := (by rw [← p0]; simp only [World.cell?, bp]); have k1 : V1.cell? ⟨p.pb, 1, none⟩ = some (.pointer (some ⟨p.r, 0, none⟩)) := (by rw [← p1]; simp only [World.cell?, bp]); have k2 : V1.cell? ⟨w.heap.size, 2, none⟩ = some (.int .i64 source) := (by rw [← b2]; simp only [World.cell?, bb]); clear hq1 hk1)
    | (go_at_call 60; refine (HR.out _ _ _ HQ1.out hp2).mono ?_; rintro e V2 ⟨rfl, hq2, hk2⟩; have HQ2 : Hid (PInv (growO (growO (growO own1 W1 0) W1.drew (2 * i + 1)) V1 (2 * i + 2)) V2 bw (.slice (some ⟨pg, po, none⟩) pls.length pc) hv hs ((pls.set i { p with sp := sp', rs := rs' }).set i { ({ p with sp := sp', rs := rs' } : PlD) with sq := sp', rq := rs' })) := hq2; have HKr : Hid (Kept (Own (growO (growO own1 W1 0) W1.drew (2 * i + 1)) V1 (2 * i + 2)) V1 V2) := hk2; have hV1 : W1.heap.size ≤ V1.heap.size := HKq.out.size; have bp2 : V2.heap[p.pb]? = V1.heap[p.pb]? := hk2.block p.pb (by omega) (fun hh => by have e1 := hh.1; have e2 : growO (growO own1 W1 0) W1.drew (2 * i + 1) p.pb = 0 := (growO_old hpbl).trans ((growO_old hpbl).trans hpbo); omega); have bb2 : V2.heap[w.heap.size]? = V1.heap[w.heap.size]? := hk2.block w.heap.size (by omega) (fun hh => by have e1 := hh.1; have e2 : growO (growO own1 W1 0) W1.drew (2 * i + 1) w.heap.size = 0 := (growO_old hszB).trans ((growO_old hszB).trans HOB.out); omega); have l0 : V2.cell? ⟨p.pb, 0, none⟩ = some (.pointer (some ⟨p.f, 0, none⟩)) := (by rw [← k0]; simp only [World.cell?, bp2]); have l1 : V2.cell? ⟨p.pb, 1, none⟩ = some (.pointer (some ⟨p.r, 0, none⟩)) := (by rw [← k1]; simp only [World.cell?, bp2]); have l2 : V2.cell? ⟨w.heap.size, 2, none⟩ = some (.int .i64 source) := (by rw [← k2]; simp only [World.cell?, bb2]); clear hq2 hk2))
  clear p0 p1 b2 k0 k1 k2 l0 l1 l2 bp bb bp2 bb2
  go_wp2_with fail
  go_ret
  have hi4 : i < 4 := by omega
  have hsW : w.heap.size < W1.heap.size := by rw [HS1.out]; omega
  have hsD : W1.drew.heap.size = W1.heap.size := rfl
  have hag : ∀ k, k < w.heap.size → growO own1 W1 0 k = own k := fun k hk => (growO_old (by omega)).trans (HO1.out k hk)
  have hag2 : ∀ k, k < w.heap.size → growO (growO own1 W1 0) W1.drew (2 * i + 1) k = own k := fun k hk => (growO_old (by omega)).trans (hag k hk)
  refine ⟨rfl, _, _, _, _, _, HG.out.two (by omega) hp HHeft.out HQ2.out, fun k hk => (growO_old (by omega)).trans (hag2 k hk), ?_, by omega⟩
  refine (HK1.out.drew.step HKq.out (fun k hk hh => ?_)).step HKr.out (fun k hk hh => ?_)
  · have e1 := hh.1
    rw [hag k hk] at e1; omega
  · have e1 := hh.1
    rw [hag2 k hk] at e1; omega
end Go.Proofs.YtcfngdnmpogaoaaGreat
