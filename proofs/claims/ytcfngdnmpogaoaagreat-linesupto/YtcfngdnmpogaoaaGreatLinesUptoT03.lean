import Derived.Test.YtcfngdnmpogaoaaGreatLinesUptoT02
import Derived.Deep.RegionHeld3
import Derived.Test.YtcfngdnmpogaoaaGreatRows
import Derived.Conc.MuData
import Derived.Conc.MuLone
import Derived.KernelRfl
import Derived.Test.YtcfngdnmpogaoaaGreatLinesUptoT01
import Derived.WalkKit
import Derived.Deep.RegionWith
import Derived.Deep.QuietTactic
import Derived.BigQuiet
import Derived.StillTailTactics

namespace Go.Proofs.YtcfngdnmpogaoaaGreat
open Go.RowKit

/-- What stands in a slice of bytes, tags or windows, asked for in whatever later world. -/
theorem Row.at {w wr : World} {e : TypeId} {sz : Nat} {g off n cap : Nat} {xs : List Value} (h : Row w e sz (.slice (some ⟨g, off, none⟩) n cap) xs) (hb : Below w.heap.size w wr) (j : Nat) (hj : j < n * sz) : wr.cell? ⟨g, off + j, none⟩ = xs[j]? :=
  (h.below hb (fun _ hk => (h.blk_lt hk).1)).cell j hj

theorem slice_some {w : World} {e : TypeId} {sz : Nat} {a : Option Addr} {n cap : Nat} {xs : List Value} (h : Row w e sz (.slice a n cap) xs) (hn : 0 < n) : ∃ g off, a = some ⟨g, off, none⟩ := by
  rcases h with ⟨h, _⟩ | ⟨g, off, n', cap', cur, hv, _⟩
  · simp only [Value.slice.injEq] at h; omega
  · simp only [Value.slice.injEq] at hv; exact ⟨g, off, hv.1⟩

set_option maxRecDepth 20000 in
set_option maxHeartbeats 1600000 in
theorem marked_any (d : HoldD) (w : World) (h : Hold w d) :
    Calls Tryz.prog 62 #[.pointer (some ⟨d.hb, 0, none⟩)] w fun e w' => e = .returned (.bool true) ∧ Below w.heap.size w w' := by
  obtain ⟨hb, m, nb, nt, nw, vb, vt, vw⟩ := d
  obtain ⟨hblk, hrb, hrt, hrw, lb, lt, lw⟩ := h
  simp only at hblk hrb hrt hrw lb lt lw ⊢
  obtain ⟨ab, cb, rfl, -⟩ := hrb.len (by decide)
  obtain ⟨at_, ct, rfl, -⟩ := hrt.len (by decide)
  obtain ⟨aw, cw, rfl, -⟩ := hrw.len (by decide)
  rw [signs_len, Nat.div_one] at *
  rw [tagsOf_len, Nat.div_one] at *
  rw [winOf_len, Nat.mul_div_cancel _ (by decide)] at *
  obtain ⟨c0, c1, c2, c3, -, hlt⟩ := hold_cells hblk
  have Hc : Hid (∀ wr, Below w.heap.size w wr → wr.cell? ⟨hb, 0, none⟩ = some (.slice ab nb cb) ∧ wr.cell? ⟨hb, 1, none⟩ = some (.slice at_ nt ct) ∧ wr.cell? ⟨hb, 2, none⟩ = some (.slice aw nw cw) ∧ wr.cell? ⟨hb, 3, none⟩ = some (.int .i64 m)) := by
    intro wr hbw
    refine ⟨?_, ?_, ?_, ?_⟩ <;> (rw [hbw.cell (by exact hlt)]; assumption)
  have Hrb : Hid (Row w 5 1 (.slice ab nb cb) (signs m nb)) := hrb
  have Hrt : Hid (Row w 26 1 (.slice at_ nt ct) (tagsOf m nt)) := hrt
  have Hrw : Hid (Row w 70 7 (.slice aw nw cw) (winOf m nw)) := hrw
  clear hrb hrt hrw hblk c0 c1 c2 c3
  go_enter Tryz.func62, Tryz.ntmps62
  go_wp2
  go_loopw [3, 4] (fun ok i wr => ∃ k : Nat, k ≤ nb ∧ i = .int .i64 (k : Int) ∧ ok = .bool true ∧ Below w.heap.size w wr) (fun _ i _ => nb - (intOf i).toNat)
  case atStart => exact ⟨0, Nat.zero_le _, rfl, rfl, Below.refl _ _⟩
  case round =>
    obtain ⟨k, hk, rfl, rfl, hbw⟩ := hrel
    obtain ⟨c0, c1, c2, c3⟩ := Hc.out _ hbw
    have Hbw : Hid (Below w.heap.size w wr) := hbw
    clear hbw
    by_cases hkn : k < nb
    · obtain ⟨g, off, rfl⟩ := slice_some Hrb.out (by omega)
      have hcell := Hrb.out.at Hbw.out k (by omega)
      rw [signs_get m nb k hkn] at hcell
      go_wp2
      go_quiet ((go_at_call 86; exact Calls.quiet_of_same (sign_any _ _ _)))
      go_wp2
      go_roundw
      case rel => exact ⟨k + 1, by omega, by go_num, by simp, below_drewN Hbw.out nq⟩
      case measure => simp [intOf]; omega
    · clear c0 c1 c2 c3
      obtain ⟨c0, c1, c2, c3⟩ := Hc.out _ Hbw.out
      go_wp2
      clear c0 c1 c2 c3
      go_loopw [3, 5] (fun ok i wr => ∃ k : Nat, k ≤ nt ∧ i = .int .i64 (k : Int) ∧ ok = .bool true ∧ Below w.heap.size w wr) (fun _ i _ => nt - (intOf i).toNat)
      case atStart => exact ⟨0, Nat.zero_le _, rfl, rfl, Hbw.out⟩
      case round =>
        clear Hbw
        obtain ⟨k, hk, rfl, rfl, hbw⟩ := hrel
        obtain ⟨c0, c1, c2, c3⟩ := Hc.out _ hbw
        have Hbw : Hid (Below w.heap.size w wr) := hbw
        clear hbw
        by_cases hkn : k < nt
        · obtain ⟨g, off, rfl⟩ := slice_some Hrt.out (by omega)
          have hcell := Hrt.out.at Hbw.out k (by omega)
          rw [tagsOf_get m nt k hkn, u32of] at hcell
          go_wp2
          go_quiet (fail)
          go_wp2
          go_roundw
          case rel => exact ⟨k + 1, by omega, by go_num, by simp, below_drewN Hbw.out nq⟩
          case measure => simp [intOf]; omega
        · go_wp2
          clear c0 c1 c2 c3
          go_loopw [3, 6] (fun ok i wr => ∃ k : Nat, k ≤ nw ∧ i = .int .i64 (k : Int) ∧ ok = .bool true ∧ Below w.heap.size w wr) (fun _ i _ => nw - (intOf i).toNat)
          case atStart => exact ⟨0, Nat.zero_le _, rfl, rfl, Hbw.out⟩
          case round =>
            clear Hbw
            obtain ⟨k, hk, rfl, rfl, hbw⟩ := hrel
            obtain ⟨c0, c1, c2, c3⟩ := Hc.out _ hbw
            have Hbw : Hid (Below w.heap.size w wr) := hbw
            have hs := hbw.size
            clear hbw
            by_cases hkn : k < nw
            · obtain ⟨g, off, rfl⟩ := slice_some Hrw.out (by omega)
              have hgl := (Hrw.out.blk_lt (k := g) rfl).1
              have hq : ∀ i, i < 7 → wr.cell? ⟨g, off + (k * 7 + i), none⟩ = (winCells m)[i]? := fun i hi => by
                rw [Hrw.out.at Hbw.out (k * 7 + i) (by omega), winOf_get m nw k i hkn hi]
              have q0 := hq 0 (by omega)
              have q1 := hq 1 (by omega)
              have q2 := hq 2 (by omega)
              have q3 := hq 3 (by omega)
              have q4 := hq 4 (by omega)
              have q5 := hq 5 (by omega)
              have q6 := hq 6 (by omega)
              simp only [winCells, List.getElem?_cons_zero, List.getElem?_cons_succ, Nat.add_zero, ← Nat.add_assoc] at q0 q1 q2 q3 q4 q5 q6
              clear hq
              have hneg : IntKind.i64.wrap (-m) = wrap64 (-m) := IntWalk.i64_left _
              generalize wrap64 (-m) = NM at *
              have c3' : ∀ o : Obj, (wr.alloc o).cell? ⟨hb, 3, none⟩ = some (.int .i64 m) := fun o => by
                rw [((Below.refl _ wr).alloc (Nat.le_refl _) o).cell (by show hb < _; omega)]; exact c3
              go_wp2
              go_quiet (fail)
              go_wp2
              go_roundw
              case rel => exact ⟨k + 1, by omega, by go_num, by simp, below_drewN (Hbw.out.alloc hs _) nq⟩
              case measure => simp [intOf]; omega
            · go_wp2
              go_ret
              exact ⟨rfl, Hbw.out⟩

end Go.Proofs.YtcfngdnmpogaoaaGreat

namespace Go.Proofs.YtcfngdnmpogaoaaGreat
open Go.RowKit

theorem info42 : (Tryz.prog.info? 26).map (fun i => (i.zero, i.size, i.bytes)) = some (some (.int .u32 0), 1, 4) := by kernel_rfl
theorem info133 : (Tryz.prog.info? 70).map (fun i => (i.zero, i.size, i.bytes)) = some (some (.agg #[.string ⟨#[]⟩, .int .i64 0, .int .i64 0, .int .i64 0, .int .i64 0, .int .i64 0, .slice none 0 0]), 7, 80) := by kernel_rfl

theorem put0 {w : World} {g : Nat} {x0 x1 x2 x3 y : Value} {t : TypeId} (h : w.heap[g]? = some (.cells #[x0, x1, x2, x3] t (0, 0))) : (w.setCell ⟨g, 0, none⟩ y).heap[g]? = some (.cells #[y, x1, x2, x3] t (0, 0)) := heap_setCell_same w g 0 _ t y h
theorem put1 {w : World} {g : Nat} {x0 x1 x2 x3 y : Value} {t : TypeId} (h : w.heap[g]? = some (.cells #[x0, x1, x2, x3] t (0, 0))) : (w.setCell ⟨g, 1, none⟩ y).heap[g]? = some (.cells #[x0, y, x2, x3] t (0, 0)) := heap_setCell_same w g 1 _ t y h
theorem put2 {w : World} {g : Nat} {x0 x1 x2 x3 y : Value} {t : TypeId} (h : w.heap[g]? = some (.cells #[x0, x1, x2, x3] t (0, 0))) : (w.setCell ⟨g, 2, none⟩ y).heap[g]? = some (.cells #[x0, x1, y, x3] t (0, 0)) := heap_setCell_same w g 2 _ t y h
theorem put3 {w : World} {g : Nat} {x0 x1 x2 x3 y : Value} {t : TypeId} (h : w.heap[g]? = some (.cells #[x0, x1, x2, x3] t (0, 0))) : (w.setCell ⟨g, 3, none⟩ y).heap[g]? = some (.cells #[x0, x1, x2, y] t (0, 0)) := heap_setCell_same w g 3 _ t y h

/-- Old slices of one kind of elements stand, if they share a block with v only ahead of its end. -/
def Stand (e : TypeId) (sz : Nat) (v : Value) (len : Nat) (w W : World) : Prop := ∀ u ys, Row w e sz u ys → (u.ownBlock = v.ownBlock → offOf u = offOf v ∧ ys.length ≤ len) → Row W e sz u ys
/-- The slice v' stands where v stood, or in new memory. -/
def Stepped (w : World) (v v' : Value) : Prop := (v'.ownBlock = v.ownBlock ∧ offOf v' = offOf v) ∨ ∃ k, v'.ownBlock = some k ∧ w.heap.size ≤ k

theorem App.other {W w' : World} {o : Obj} {e e' : TypeId} {sz : Nat} {v v' : Value} {xs news : List Value} {g : Nat} {c : Array Value} {f : Nat × Nat} (h : App (W.alloc o) w' e sz v v' xs news) (hrow : Row W e sz v xs) (hg : W.heap[g]? = some (.cells c e' f)) (hne : e ≠ e') : w'.heap[g]? = some (.cells c e' f) := by
  have hgW := (Array.getElem?_eq_some_iff.1 hg).1
  rw [h.grown.block g (by simp; omega) (fun e => hrow.ne_block hg hne e.symm), Below.heap_alloc _ _ _ hgW]; exact hg

/-- ONE FIELD MADE LONGER: what stands behind 'g.f = append(h.f, x)'. -/
structure Grew (g : Nat) (w W : World) (e : TypeId) (sz : Nat) (v v' : Value) (xs news : List Value) : Prop where
  row : Row W e sz v' (xs ++ news)
  kept : Kept (fun k => v.ownBlock = some k ∨ k = g) w W
  step : Stepped w v v'
  stand : Stand e sz v xs.length w W

theorem Grew.of {g j : Nat} {u : Value} {w W2 : World} {e e' : TypeId} {sz : Nat} {v v' : Value} {xs news : List Value} {o : Obj} {c : Array Value} {f : Nat × Nat} (h : App (w.alloc o) W2 e sz v v' xs news) (hg : W2.heap[g]? = some (.cells c e' f)) (hne : e ≠ e') :
    Grew g w (W2.setCell ⟨g, j, none⟩ u) e sz v v' xs news := by
  refine ⟨h.row.setCell _ _ (h.row.ne_block hg hne), ?_, ?_, ?_⟩
  · exact ((((Kept.refl _ w).alloc o).step (Kept.ofGrown h.grown) (fun _ _ h => .inl h))).setCell _ _ (fun _ => .inr rfl)
  · rcases h.step with h' | ⟨h', _⟩
    · exact .inl h'
    · exact .inr ⟨_, h', by simp⟩
  · intro u ys hu hp
    have hu' := h.old u ys (hu.alloc o) hp
    exact hu'.setCell _ _ (hu'.ne_block hg hne)

theorem Grew.undrew {g : Nat} {w W : World} {e : TypeId} {sz : Nat} {v v' : Value} {xs news : List Value} (h : Grew g w.drew W e sz v v' xs news) : Grew g w W e sz v v' xs news :=
  ⟨h.row, ⟨h.kept.os, h.kept.tape, h.kept.output, h.kept.size, h.kept.block⟩, h.step, h.stand⟩
theorem Row.through {g : Nat} {w W : World} {e e' e'' : TypeId} {sz sz' : Nat} {v v' u : Value} {xs news ys : List Value} {c : Array Value} {f : Nat × Nat} (hu : Row w e sz u ys) (hgr : Grew g w W e' sz' v v' xs news) (hv : Row w e' sz' v xs) (hg : w.heap[g]? = some (.cells c e'' f)) (h1 : e ≠ e') (h2 : e ≠ e'') : Row W e sz u ys :=
  hu.kept hgr.kept (fun k hk => by rintro (h | h); exact hu.apart hv h1 hk h; (subst h; exact hu.ne_block hg h2 hk))
theorem many_new (w : World) (xs : List Value) (e : TypeId) : ∀ (j : Nat) (u : Value), xs[j]? = some u → (w.alloc (.cells xs.toArray e)).cell? ((⟨w.heap.size, 0, none⟩ : Addr).add j) = some u := by
  intro j u hu
  rw [Addr.add_lit, cell_of_row _ _ _ _ _ _ (heap_alloc_new w _)]
  simpa using hu
theorem Stepped.mono {w w' : World} {v v' : Value} (h : Stepped w' v v') (hs : w.heap.size ≤ w'.heap.size) : Stepped w v v' := h.imp id (fun ⟨k, h1, h2⟩ => ⟨k, h1, Nat.le_trans hs h2⟩)

/-- What 'longer' leaves. -/
structure Longer (w W : World) (d d' : HoldD) : Prop where
  hold : Hold W d'
  fresh : w.heap.size ≤ d'.hb
  same : d'.m = d.m ∧ d'.nb = d.nb + 1 ∧ d'.nt = d.nt + 1 ∧ d'.nw = d.nw + 1
  kept : Kept (fun k => d.vb.ownBlock = some k ∨ d.vt.ownBlock = some k ∨ d.vw.ownBlock = some k) w W
  sb : Stand 5 1 d.vb d.nb w W
  st : Stand 26 1 d.vt d.nt w W
  sw : Stand 70 7 d.vw (d.nw * 7) w W
  pb : Stepped w d.vb d'.vb
  pt : Stepped w d.vt d'.vt
  pw : Stepped w d.vw d'.vw

set_option maxRecDepth 20000 in
set_option maxHeartbeats 1600000 in
theorem longer_any (hb : Nat) (m : Int) (nb nt nw : Nat) (vb vt vw : Value) (w : World) (h : Hold w ⟨hb, m, nb, nt, nw, vb, vt, vw⟩) (h1 : nb + 1 ≤ 140737488355328) (h2 : nt + 1 ≤ 35184372088832) (h3 : nw + 1 ≤ 1759218604441) :
    Calls Tryz.prog 83 #[.pointer (some ⟨hb, 0, none⟩)] w fun e w' => ∃ d', e = .returned (.pointer (some ⟨d'.hb, 0, none⟩)) ∧ Longer w w' ⟨hb, m, nb, nt, nw, vb, vt, vw⟩ d' := by
  obtain ⟨i5, hi5, hz50, hz51, hz52⟩ := info_parts info5
  obtain ⟨i42, hi42, hz420, hz421, hz422⟩ := info_parts info42
  obtain ⟨i133, hi133, hz1330, hz1331, hz1332⟩ := info_parts info133
  obtain ⟨hblk, hrb, hrt, hrw, lb, lt, lw⟩ := h
  simp only at hblk hrb hrt hrw lb lt lw ⊢
  obtain ⟨c0, c1, c2, c3, -, hlt⟩ := hold_cells hblk
  obtain ⟨ab, cb, hvb, -⟩ := hrb.len (by decide)
  rw [signs_len, Nat.div_one] at hvb
  subst hvb
  go_enter Tryz.func83, Tryz.ntmps83
  go_wp2
  go_quiet ((go_at_call 86; exact Calls.quiet_of_same (sign_any _ _ _)))
  -- the world behind the first two statements
  have hk0 : Kept (fun _ => False) w ((w.alloc (.cells #[.slice none 0 0, .slice none 0 0, .slice none 0 0, .int .i64 m] 135)).drewN nq) := ((Kept.refl _ w).alloc _).drewN nq
  have hg0 : ((w.alloc (.cells #[.slice none 0 0, .slice none 0 0, .slice none 0 0, .int .i64 m] 135)).drewN nq).heap[w.heap.size]? = some (.cells #[.slice none 0 0, .slice none 0 0, .slice none 0 0, .int .i64 m] 135 (0, 0)) := by
    rw [(below_drewN (Below.refl (w.heap.size + 1) (w.alloc (.cells #[.slice none 0 0, .slice none 0 0, .slice none 0 0, .int .i64 m] 135))) nq).block _ (by omega)]
    exact heap_alloc_new w _
  generalize (w.alloc (.cells #[.slice none 0 0, .slice none 0 0, .slice none 0 0, .int .i64 m] 135)).drewN nq = W0 at *
  generalize hgg : w.heap.size = g at *
  clear c0 c1 c2 c3
  have hblk0 := (hk0.block hb (by omega) id).trans hblk
  have hrb0 := hrb.kept hk0 (fun _ _ => id)
  have hrt0 := hrt.kept hk0 (fun _ _ => id)
  have hrw0 := hrw.kept hk0 (fun _ _ => id)
  obtain ⟨c0, c1, c2, c3, -, -⟩ := hold_cells hblk0
  obtain ⟨d0, d1, d2, d3, fg, hgW⟩ := hold_cells hg0
  generalize hvb : Value.slice ab nb cb = vb at *
  have Hvb : Hid (Value.slice ab nb cb = vb) := hvb
  clear hvb
  have hsx : signs m nb ++ [.int .u8 (signZ m (nb : Int))] = signs m (nb + 1) := (signs_snoc m nb).symm
  have HX : Hid (signs m nb ++ [.int .u8 (signZ m (nb : Int))] = signs m (nb + 1)) := hsx
  have hlen := signs_len m nb
  generalize hxs : signs m nb = xs at *
  have Hxs : Hid (signs m nb = xs) := hxs
  clear hsx hxs
  generalize signZ m (nb : Int) = sg at *
  go_wp2_with (at_builtin; go_must (refine wpList_append _ rfl _ _ _ _ rfl 5 i5 (.int .u8 0) 1 1 Tryz.underlying30 hi5 hz50 hz51 hz52 rfl Nat.one_pos vb xs rfl (hrb0.alloc _) (.slice (some ⟨W0.heap.size, 0, none⟩) 1 1) 1 [.int .u8 sg] rfl ?hsrc Nat.one_pos ?h63 ?hby ?next))
  case hsrc => exact Src.ofSlice _ Tryz.underlying30 ⟨W0.heap.size, 0, none⟩ 1 1 _ rfl (one_new W0 _ _) (by simp [Value.oneCell'])
  case h63 => simp only [maxLen]; omega
  case hby => omega
  intro v1 w1 ha1
  have hg1 : w1.heap[g]? = some (.cells #[.slice none 0 0, .slice none 0 0, .slice none 0 0, .int .i64 m] 135 (0, 0)) := by
    rw [ha1.grown.block g (by simp; omega) (fun e => hrb0.ne_block hg0 (by decide) e.symm), Below.heap_alloc _ _ _ hgW]; exact hg0
  obtain ⟨e0, e1, e2, e3, fg1, hgw1⟩ := hold_cells hg1
  clear c0 c1 c2 c3 d0 d1 d2 d3 fg
  obtain ⟨g1, o1, n1, k1, hv1, -, -⟩ := ha1.row.shape (by simp)
  subst hv1
  go_wp2
  generalize Value.slice (some ⟨g1, o1, none⟩) n1 k1 = v1 at *
  have hgr1 : Grew g W0 (w1.setCell ⟨g, 0, none⟩ v1) 5 1 vb v1 xs [.int .u8 sg] := Grew.of ha1 hg1 (by decide)
  have hg2 := put0 (y := v1) hg1
  clear ha1 hg1 hgw1
  clear e0 e1 e2 e3 fg1
  generalize w1.setCell ⟨g, 0, none⟩ v1 = W2 at *
  have hblk2 : W2.heap[hb]? = some (.cells #[vb, vt, vw, .int .i64 m] 135 (0, 0)) := (hgr1.kept.block hb (by omega) (by rintro (h | h); exact hrb0.ne_block hblk0 (by decide) h; omega)).trans hblk0
  have hrt2 : Row W2 26 1 vt (tagsOf m nt) := hrt0.kept hgr1.kept (fun k hk => by rintro (h | h); exact hrt0.apart hrb0 (by decide) hk h; (subst h; exact hrt0.ne_block hg0 (by decide) hk))
  have hrw2 : Row W2 70 7 vw (winOf m nw) := hrw0.kept hgr1.kept (fun k hk => by rintro (h | h); exact hrw0.apart hrb0 (by decide) hk h; (subst h; exact hrw0.ne_block hg0 (by decide) hk))
  obtain ⟨-, c1, -, c3, -, hbW⟩ := hold_cells hblk2
  obtain ⟨-, d1, -, -, fg, hgW2⟩ := hold_cells hg2
  have HT : Hid (tagsOf m nt ++ [.int .u32 (u32of m)] = tagsOf m (nt + 1)) := (tagsOf_snoc m nt).symm
  have hlt2 := tagsOf_len m nt
  generalize tagsOf m nt = ts at *
  have hum : IntKind.u32.wrap m = u32of m := rfl
  generalize u32of m = um at *
  have Hum : Hid (IntKind.u32.wrap m = um) := hum
  have hgh : ¬ hb = g := by omega
  have hgh' : ¬ g = hb := by omega
  go_region_held3 (fun W => W.cell? ⟨hb, 1, none⟩ = some vt ∧ W.cell? ⟨hb, 3, none⟩ = some (.int .i64 m)) (go_keep) (first
    | (refine step_append rfl _ _ _ _ rfl 26 i42 (.int .u32 0) 1 4 Tryz.underlying68 hi42 hz420 hz421 hz422 rfl Nat.one_pos vt ts rfl ?_ (.slice (some ⟨W2.heap.size, 0, none⟩) 1 1) 1 [.int .u32 um] rfl ?_ Nat.one_pos ?_ ?_ ?_; exact hrt2.alloc _; exact Src.ofSlice _ Tryz.underlying68 ⟨W2.heap.size, 0, none⟩ 1 1 _ rfl (one_new W2 _ _) (by simp [Value.oneCell']); (simp only [maxLen]; omega); omega; intro v2 w3 ha2
       have hb3 := App.other (W := W2.drew) ha2 hrt2 hblk2 (by decide)
       have hg3 := App.other (W := W2.drew) ha2 hrt2 hg2 (by decide)
       obtain ⟨-, f1, -, f3, -, -⟩ := hold_cells hb3
       obtain ⟨-, e1, -, -, fg3, hgW3⟩ := hold_cells hg3
       obtain ⟨g2, o2, n2, k2, hv2, -, -⟩ := ha2.row.shape (by simp)
       subst hv2))
  generalize Value.slice (some ⟨g2, o2, none⟩) n2 k2 = v2 at *
  have hgr2 : Grew g W2 (w3.setCell ⟨g, 1, none⟩ v2) 26 1 vt v2 ts [.int .u32 um] := (Grew.of (w := W2.drew) ha2 hg3 (by decide)).undrew
  have hg4 := put1 (y := v2) hg3
  have hblk4 : (w3.setCell ⟨g, 1, none⟩ v2).heap[hb]? = some (.cells #[vb, vt, vw, .int .i64 m] 135 (0, 0)) := (hgr2.kept.block hb (by omega) (by rintro (h | h); exact hrt2.ne_block hblk2 (by decide) h; omega)).trans hblk2
  have hrw4 : Row (w3.setCell ⟨g, 1, none⟩ v2) 70 7 vw (winOf m nw) := hrw2.kept hgr2.kept (fun k hk => by rintro (h | h); exact hrw2.apart hrt2 (by decide) hk h; (subst h; exact hrw2.ne_block hg2 (by decide) hk))
  have hr14 : Row (w3.setCell ⟨g, 1, none⟩ v2) 5 1 v1 (xs ++ [.int .u8 sg]) := hgr1.row.kept hgr2.kept (fun k hk => by rintro (h | h); exact hgr1.row.apart hrt2 (by decide) hk h; (subst h; exact hgr1.row.ne_block hg2 (by decide) hk))
  clear ha2 hb3 hg3 f1 f3 e1 fg3 hgW3 c1 c3 d1 fg hblk2 hblk0
  generalize w3.setCell ⟨g, 1, none⟩ v2 = W4 at *
  obtain ⟨-, -, c2, c3, -, hbW4⟩ := hold_cells hblk4
  obtain ⟨-, -, d2, -, fg, hgW4⟩ := hold_cells hg4
  have HW : Hid (winOf m nw ++ winCells m = winOf m (nw + 1)) := (winOf_snoc m nw).symm
  have hlw2 := winOf_len m nw
  have hneg : IntKind.i64.wrap (-m) = wrap64 (-m) := IntWalk.i64_left _
  have HN : Hid (winCells m = [.string ⟨#[]⟩, .int .i64 0, .int .i64 (wrap64 (-m)), .int .i64 0, .int .i64 0, .int .i64 0, .slice none 0 0]) := rfl
  generalize winOf m nw = ws at *
  generalize wrap64 (-m) = NM at *
  clear hum
  go_wp2_with fail
  go_region_held3 (fun W => W.cell? ⟨hb, 2, none⟩ = some vw ∧ W.cell? ⟨hb, 3, none⟩ = some (.int .i64 m)) (go_keep) (first
    | (refine step_append rfl _ _ _ _ rfl 70 i133 _ 7 80 Tryz.underlying54 hi133 hz1330 hz1331 hz1332 rfl (by decide) vw ws rfl ?_ (.slice (some ⟨W4.heap.size, 0, none⟩) 1 1) 1 [.string ⟨#[]⟩, .int .i64 0, .int .i64 NM, .int .i64 0, .int .i64 0, .int .i64 0, .slice none 0 0] rfl ?_ Nat.one_pos ?_ ?_ ?_; exact hrw4.alloc _; exact Src.ofSlice _ Tryz.underlying54 ⟨W4.heap.size, 0, none⟩ 1 1 _ rfl (many_new W4 _ _) (by simp [Value.oneCell']); (simp only [maxLen]; omega); omega; intro v3 w5 ha3
       have hb5 := App.other (W := W4.drew) ha3 hrw4 hblk4 (by decide)
       have hg5 := App.other (W := W4.drew) ha3 hrw4 hg4 (by decide)
       obtain ⟨-, -, f2, f3, -, -⟩ := hold_cells hb5
       obtain ⟨-, -, e2, -, fg5, hgW5⟩ := hold_cells hg5
       obtain ⟨g3, o3, n3, k3, hv3, -, -⟩ := ha3.row.shape (by simp)
       subst hv3))
  generalize Value.slice (some ⟨g3, o3, none⟩) n3 k3 = v3 at *
  have hgr3 : Grew g W4 (w5.setCell ⟨g, 2, none⟩ v3) 70 7 vw v3 ws [.string ⟨#[]⟩, .int .i64 0, .int .i64 NM, .int .i64 0, .int .i64 0, .int .i64 0, .slice none 0 0] := (Grew.of (w := W4.drew) ha3 hg5 (by decide)).undrew
  have hg6 := put2 (y := v3) hg5
  have hr16 := hr14.through hgr3 hrw4 hg4 (by decide) (by decide)
  have hr26 := hgr2.row.through hgr3 hrw4 hg4 (by decide) (by decide)
  have hr36 := hgr3.row
  rw [← HN.out, HW.out] at hr36
  rw [HT.out] at hr26
  rw [HX.out] at hr16
  have hL : Longer w (w5.setCell ⟨g, 2, none⟩ v3) ⟨hb, m, nb, nt, nw, vb, vt, vw⟩ ⟨g, m, nb + 1, nt + 1, nw + 1, v1, v2, v3⟩ := by
    refine ⟨⟨hg6, hr16, hr26, hr36, by simp only; omega, by simp only; omega, by simp only; omega⟩, by simp only; omega, ⟨rfl, rfl, rfl, rfl⟩, ?_, ?_, ?_, ?_, ?_, ?_, ?_⟩
    · have hh := ((hk0.mono (Y := fun k => vb.ownBlock = some k ∨ vt.ownBlock = some k ∨ vw.ownBlock = some k) (fun _ _ h => h.elim)).step hgr1.kept (fun k hk => by rintro (h | h); exact .inl h; omega)).step hgr2.kept (fun k hk => by rintro (h | h); exact .inr (.inl h); omega)
      exact hh.step hgr3.kept (fun k hk => by rintro (h | h); exact .inr (.inr h); omega)
    · intro u ys hu hp
      simp only at hp
      have u0 := hu.kept hk0 (fun _ _ => id)
      have u2 := hgr1.stand u ys u0 (fun e => by rw [hlen]; exact hp e)
      exact (u2.through hgr2 hrt2 hg2 (by decide) (by decide)).through hgr3 hrw4 hg4 (by decide) (by decide)
    · intro u ys hu hp
      simp only at hp
      have u0 := hu.kept hk0 (fun _ _ => id)
      have u2 := u0.through hgr1 hrb0 hg0 (by decide) (by decide)
      have u4 := hgr2.stand u ys u2 (fun e => by rw [hlt2]; exact hp e)
      exact u4.through hgr3 hrw4 hg4 (by decide) (by decide)
    · intro u ys hu hp
      simp only at hp
      have u0 := hu.kept hk0 (fun _ _ => id)
      have u2 := u0.through hgr1 hrb0 hg0 (by decide) (by decide)
      have u4 := u2.through hgr2 hrt2 hg2 (by decide) (by decide)
      exact hgr3.stand u ys u4 (fun e => by rw [hlw2]; exact hp e)
    · exact hgr1.step.mono hk0.size
    · exact hgr2.step.mono (Nat.le_trans hk0.size hgr1.kept.size)
    · exact hgr3.step.mono (Nat.le_trans hk0.size (Nat.le_trans hgr1.kept.size hgr2.kept.size))
  have HL : Hid (Longer w (w5.setCell ⟨g, 2, none⟩ v3) ⟨hb, m, nb, nt, nw, vb, vt, vw⟩ ⟨g, m, nb + 1, nt + 1, nw + 1, v1, v2, v3⟩) := hL
  clear hL
  generalize w5.setCell ⟨g, 2, none⟩ v3 = W6 at *
  go_wp2
  go_ret
  exact ⟨⟨g, m, nb + 1, nt + 1, nw + 1, v1, v2, v3⟩, rfl, by rw [Hvb.out]; exact HL.out⟩

end Go.Proofs.YtcfngdnmpogaoaaGreat

/-
  The reference's 'tagged': tags, rising, and one more.
-/
namespace Go.Proofs.YtcfngdnmpogaoaaGreat
open Go.RowKit

abbrev tagV (n : Nat) : Value := .int .u32 (n : Int)

def tagStep (t : Nat) (st : List Nat × Bool) (x : Nat) : List Nat × Bool :=
  let a : List Nat × Bool := if t ≤ x ∧ st.2 = false then (st.1 ++ [t], true) else st
  if x ≠ t then (a.1 ++ [x], a.2) else a

def tagFold (t : Nat) (l : List Nat) : List Nat × Bool := l.foldl (tagStep t) ([], false)

def taggedL (l : List Nat) (t : Nat) : List Nat := if (tagFold t l).2 then (tagFold t l).1 else (tagFold t l).1 ++ [t]

theorem tagFold_snoc (t : Nat) (l : List Nat) (x : Nat) : tagFold t (l ++ [x]) = tagStep t (tagFold t l) x := by
  simp [tagFold]

theorem tagStep_len (t : Nat) (st : List Nat × Bool) (x : Nat) : (tagStep t st x).1.length ≤ st.1.length + 2 := by
  simp only [tagStep]
  (repeat' split) <;> simp <;> omega

theorem tagFold_len (t : Nat) (l : List Nat) : (tagFold t l).1.length ≤ 2 * l.length := by
  have h : ∀ (l : List Nat) (st : List Nat × Bool), (l.foldl (tagStep t) st).1.length ≤ st.1.length + 2 * l.length := by
    intro l
    induction l with
    | nil => intro st; simp
    | cons x l ih => intro st; have := ih (tagStep t st x); have := tagStep_len t st x; simp only [List.foldl_cons, List.length_cons]; omega
  simpa [tagFold] using h l ([], false)

theorem tagFold_take (t : Nat) (l : List Nat) (n : Nat) (h : n < l.length) : tagFold t (l.take (n + 1)) = tagStep t (tagFold t (l.take n)) l[n] := by
  rw [List.take_succ_eq_append_getElem h, tagFold_snoc]
end Go.Proofs.YtcfngdnmpogaoaaGreat

/-
  The numbers under which this program holds the lock's functions and types, and that it holds them.
-/
namespace Go.Proofs.YtcfngdnmpogaoaaGreat
abbrev muLink : Go.Conc.Locks.MuLink := { lock := 42, unlock := 43, ilock := 68, iunlock := 69, lockSlow := 92, unlockSlow := 95, disable := 88, enable := 90, acquire := 91, relMerge := 93, cas32 := 89, add32 := 94, tMutex := 102, tIMutex := 100, tPMutex := 146, tPIMutex := 164, tPI32 := 166, tUP := 168, tNoCopy := 98, tU32 := 26 }
theorem muLib : Go.Conc.Locks.MuLib Tryz.prog muLink :=
  ⟨Tryz.func42, Tryz.func43, Tryz.func68, Tryz.func69, Tryz.func88, Tryz.func90, Tryz.func91, Tryz.func93, Tryz.func89, Tryz.func94, Tryz.underlying100, Tryz.runUnderlying100, Tryz.sizeOf100, Tryz.isAgg100, Tryz.zeroValue100, Tryz.underlying102, Tryz.runUnderlying102, Tryz.sizeOf102, Tryz.isAgg102, Tryz.zeroValue102, Tryz.underlying146, Tryz.runUnderlying146, Tryz.sizeOf146, Tryz.isAgg146, Tryz.zeroValue146, Tryz.underlying164, Tryz.runUnderlying164, Tryz.sizeOf164, Tryz.isAgg164, Tryz.zeroValue164, Tryz.underlying166, Tryz.runUnderlying166, Tryz.sizeOf166, Tryz.isAgg166, Tryz.zeroValue166, Tryz.underlying168, Tryz.runUnderlying168, Tryz.sizeOf168, Tryz.isAgg168, Tryz.zeroValue168, Tryz.underlying98, Tryz.runUnderlying98, Tryz.sizeOf98, Tryz.isAgg98, Tryz.zeroValue98, Tryz.underlying21, Tryz.runUnderlying21, Tryz.sizeOf21, Tryz.isAgg21, Tryz.zeroValue21, (by kernel_rfl)⟩
theorem muData : Go.Conc.Locks.MuData Tryz.prog muLink := ⟨Tryz.underlying26, by kernel_rfl, by kernel_rfl, by kernel_rfl, by kernel_rfl, by kernel_rfl⟩
end Go.Proofs.YtcfngdnmpogaoaaGreat

/-
  The atomic numbers of the flow's counts: Load and Add, by contract.
-/
namespace Go.Proofs.YtcfngdnmpogaoaaGreat
open Go.RowKit Go.MuLone

theorem load_any (b off : Nat) (x : Int) (w : World) (h : w.cell? ⟨b, off, none⟩ = some (.int .i64 x)) :
    Calls Tryz.prog 76 #[.pointer (some ⟨b, off, none⟩)] w fun e w' => e = .returned (.int .i64 x) ∧ w' = w := by
  have hl := run_call_load (P := Tryz.prog) Tryz.func110 (by kernel_rfl) (by kernel_rfl) (by kernel_rfl) .i64 (by kernel_rfl) h
  go_enter Tryz.func76, Tryz.ntmps76
  go_wp2
  go_ret
  exact ⟨rfl, rfl⟩

theorem add_any (b off : Nat) (x y : Int) (w : World) (h : w.cell? ⟨b, off, none⟩ = some (.int .i64 x)) (hz : w.frozen? ⟨b, off, none⟩ = false) :
    Calls Tryz.prog 97 #[.pointer (some ⟨b, off, none⟩), .int .i64 y] w fun e w' => e = .returned (.int .i64 (wrap64 (x + y))) ∧ w' = w.setCell ⟨b, off, none⟩ (.int .i64 (wrap64 (x + y))) := by
  have hl := run_call_add (P := Tryz.prog) Tryz.func125 (by kernel_rfl) (by kernel_rfl) (by kernel_rfl) .i64 (by kernel_rfl) (y := y) (s := wrap64 (x + y)) h hz (by simp [go_sem, IntKind.wrap_i64, wrap64])
  go_enter Tryz.func97, Tryz.ntmps97
  go_wp2
  go_ret
  exact ⟨rfl, rfl⟩
end Go.Proofs.YtcfngdnmpogaoaaGreat

/-
  The code's flow as cells.
-/
namespace Go.Proofs.YtcfngdnmpogaoaaGreat
open Go.RowKit

/-- The cells of one source of the code's flow. -/
structure SSrc where
  opened : Bool
  broken : Bool
  unread : Value
  time : Int
  is : Bool

def SSrc.cells (s : SSrc) : List Value := [.bool s.opened, .bool s.broken, s.unread, .int .i64 s.time, .bool s.is]
def SSrc.zero : SSrc := ⟨false, false, .slice none 0 0, 0, false⟩

structure SCells where
  lk : Int
  size : Int
  slide : Int
  late : Int
  keys : Int
  src : List SSrc
  lt : Int
  li : Bool
  going : Value
  ended : Value
  n : RCounts

def SCells.head (r : SCells) : List Value := [.int .i32 r.lk, .int .u32 0, .int .i64 r.size, .int .i64 r.slide, .int .i64 r.late, .int .i64 r.keys]
def SCells.tail (r : SCells) : List Value := [.int .i64 r.lt, .bool r.li, r.going, r.ended] ++ r.n.cells
def SCells.cells (r : SCells) : List Value := r.head ++ (r.src.flatMap SSrc.cells ++ r.tail)

def SCells.new (size slide late keys : Int) : SCells :=
  ⟨0, size, slide, late, keys, List.replicate 8 SSrc.zero, 0, false, .slice none 0 0, .slice none 0 0, ⟨0, 0, 0, 0, 0, 0⟩⟩

/-- The flow lies in block 'g'. -/
structure SF (w : World) (g : Nat) (r : SCells) : Prop where
  blk : w.heap[g]? = some (.cells r.cells.toArray 116)
  len : r.src.length = 8

theorem SF.cell {w : World} {g : Nat} {r : SCells} (h : SF w g r) {i : Nat} {v : Value} (hi : r.cells[i]? = some v) : w.cell? ⟨g, i, none⟩ = some v := by
  simp [World.cell?, h.blk, hi]

theorem SF.frozen {w : World} {g : Nat} {r : SCells} (h : SF w g r) (i : Nat) : w.frozen? ⟨g, i, none⟩ = false := by
  simp [World.frozen?, h.blk]

theorem SF.lt {w : World} {g : Nat} {r : SCells} (h : SF w g r) : g < w.heap.size := (Array.getElem?_eq_some_iff.1 h.blk).1

theorem SF.congr {w w' : World} {g : Nat} {r : SCells} (h : SF w g r) (hb : w'.heap[g]? = w.heap[g]?) : SF w' g r := ⟨by rw [hb]; exact h.blk, h.len⟩

theorem SF.below {w w' : World} {B g : Nat} {r : SCells} (h : SF w g r) (hb : Below B w w') (hg : g < B) : SF w' g r := h.congr (hb.block g hg)

theorem sflat5 (l : List SSrc) (j k : Nat) (s : SSrc) (hs : l[j]? = some s) (hk : k < 5) : (l.flatMap SSrc.cells)[j * 5 + k]? = s.cells[k]? := by
  induction l generalizing j with
  | nil => simp at hs
  | cons a l ih =>
    have ha : a.cells.length = 5 := rfl
    cases j with
    | zero =>
      simp at hs
      subst hs
      rw [List.flatMap_cons, List.getElem?_append_left (by omega)]
      simp
    | succ j =>
      simp at hs
      rw [List.flatMap_cons, List.getElem?_append_right (by omega), ← ih j hs]
      congr 1
      omega

theorem sflat5_length (l : List SSrc) : (l.flatMap SSrc.cells).length = 5 * l.length := by
  induction l with
  | nil => rfl
  | cons a l ih => rw [List.flatMap_cons, List.length_append, ih]; simp [SSrc.cells]; omega

theorem SCells.srcAt (r : SCells) (j k : Nat) (s : SSrc) (hs : r.src[j]? = some s) (hk : k < 5) : r.cells[6 + j * 5 + k]? = s.cells[k]? := by
  have hj : j < r.src.length := (List.getElem?_eq_some_iff.1 hs).1
  have hl := sflat5_length r.src
  have hh : r.head.length = 6 := rfl
  rw [SCells.cells, List.getElem?_append_right (by omega), List.getElem?_append_left (by omega), ← sflat5 r.src j k s hs hk]
  congr 1
  omega

theorem SF.headAt {w : World} {g : Nat} {r : SCells} (h : SF w g r) (k : Nat) {v : Value} (hv : r.head[k]? = some v) : w.cell? ⟨g, k, none⟩ = some v := by
  have hk : k < r.head.length := (List.getElem?_eq_some_iff.1 hv).1
  refine h.cell ?_
  rw [SCells.cells, List.getElem?_append_left hk]; exact hv

theorem SF.tailAt {w : World} {g : Nat} {r : SCells} (h : SF w g r) (k : Nat) {v : Value} (hv : r.tail[k]? = some v) : w.cell? ⟨g, 46 + k, none⟩ = some v := by
  have hl := sflat5_length r.src
  have hh : r.head.length = 6 := rfl
  have h8 := h.len
  refine h.cell ?_
  rw [SCells.cells, List.getElem?_append_right (by omega), List.getElem?_append_right (by omega), ← hv]
  congr 1
  omega

theorem sflat5_set (l : List SSrc) (j k : Nat) (s s' : SSrc) (v : Value) (hs : l[j]? = some s) (hk : k < 5) (hc : s'.cells = s.cells.set k v) : (l.set j s').flatMap SSrc.cells = (l.flatMap SSrc.cells).set (j * 5 + k) v := by
  induction l generalizing j with
  | nil => simp at hs
  | cons a l ih =>
    have ha : a.cells.length = 5 := rfl
    cases j with
    | zero =>
      simp at hs
      subst hs
      rw [List.set_cons_zero, List.flatMap_cons, List.flatMap_cons, hc, List.set_append_left _ _ (by omega)]
      simp
    | succ j =>
      simp at hs
      rw [List.set_cons_succ, List.flatMap_cons, List.flatMap_cons, ih j hs, List.set_append_right _ _ (by omega)]
      congr 2
      omega

/-- One source turned. -/
def SCells.setSrc (r : SCells) (j : Nat) (s : SSrc) : SCells := { r with src := r.src.set j s }

theorem SCells.setSrc_cells (r : SCells) (j k : Nat) (s s' : SSrc) (v : Value) (hs : r.src[j]? = some s) (hk : k < 5) (hc : s'.cells = s.cells.set k v) : (r.setSrc j s').cells = r.cells.set (6 + j * 5 + k) v := by
  have hj : j < r.src.length := (List.getElem?_eq_some_iff.1 hs).1
  have hl := sflat5_length r.src
  have hh : r.head.length = 6 := rfl
  have e : 6 + j * 5 + k - 6 = j * 5 + k := by omega
  show r.head ++ ((r.src.set j s').flatMap SSrc.cells ++ r.tail) = (r.head ++ (r.src.flatMap SSrc.cells ++ r.tail)).set _ v
  rw [sflat5_set r.src j k s s' v hs hk hc, List.set_append_right _ _ (by omega), hh, e, List.set_append_left _ _ (by omega)]

theorem SCells.setSrc_setSrc (r : SCells) (j : Nat) (s s' : SSrc) : (r.setSrc j s).setSrc j s' = r.setSrc j s' := by
  simp [SCells.setSrc]

theorem SCells.setSrc_at (r : SCells) (j : Nat) (s : SSrc) (hj : j < r.src.length) : (r.setSrc j s).src[j]? = some s := by
  simp [SCells.setSrc, hj]

theorem SF.put {w : World} {g : Nat} {r r' : SCells} (h : SF w g r) (i : Nat) (v : Value) (hr : r'.cells = r.cells.set i v) (hl : r'.src.length = 8) : SF (w.setCell ⟨g, i, none⟩ v) g r' :=
  ⟨by rw [hr]; simp [World.setCell, Array.getElem?_modify, h.blk], hl⟩

theorem SF.putSrc {w : World} {g : Nat} {r : SCells} (h : SF w g r) (j k : Nat) (s s' : SSrc) (v : Value) (hs : r.src[j]? = some s) (hk : k < 5) (hc : s'.cells = s.cells.set k v) : SF (w.setCell ⟨g, 6 + j * 5 + k, none⟩ v) g (r.setSrc j s') :=
  h.put _ _ (r.setSrc_cells j k s s' v hs hk hc) (by simp [SCells.setSrc, h.len])

theorem SF.putHead {w : World} {g : Nat} {r r' : SCells} (h : SF w g r) (k : Nat) (v : Value) (hk : k < 6) (h1 : r'.head = r.head.set k v) (h2 : r'.src = r.src) (h3 : r'.tail = r.tail) : SF (w.setCell ⟨g, k, none⟩ v) g r' := by
  refine h.put _ _ ?_ (by rw [h2]; exact h.len)
  have hh : r.head.length = 6 := rfl
  rw [SCells.cells, SCells.cells, h1, h2, h3, List.set_append_left _ _ (by omega)]

theorem SF.putTail {w : World} {g : Nat} {r r' : SCells} (h : SF w g r) (k : Nat) (v : Value) (h1 : r'.head = r.head) (h2 : r'.src = r.src) (h3 : r'.tail = r.tail.set k v) : SF (w.setCell ⟨g, 46 + k, none⟩ v) g r' := by
  refine h.put _ _ ?_ (by rw [h2]; exact h.len)
  have hh : r.head.length = 6 := rfl
  have hl := sflat5_length r.src
  have h8 := h.len
  rw [SCells.cells, SCells.cells, h1, h2, h3, List.set_append_right _ _ (by omega), List.set_append_right _ _ (by omega)]
  congr 3
  omega

/-- A whole source stored. -/
theorem SF.putAll {w : World} {g : Nat} {r : SCells} (h : SF w g r) (j : Nat) (s : SSrc) (a b : Bool) (c : Value) (d : Int) (e : Bool) (hs : r.src[j]? = some s) :
    SF (((((w.setCell ⟨g, 6 + j * 5, none⟩ (.bool a)).setCell ⟨g, 6 + j * 5 + 1, none⟩ (.bool b)).setCell ⟨g, 6 + j * 5 + 2, none⟩ c).setCell ⟨g, 6 + j * 5 + 3, none⟩ (.int .i64 d)).setCell ⟨g, 6 + j * 5 + 4, none⟩ (.bool e)) g (r.setSrc j ⟨a, b, c, d, e⟩) := by
  have hj : j < r.src.length := (List.getElem?_eq_some_iff.1 hs).1
  have h1 := h.putSrc j 0 s ⟨a, s.broken, s.unread, s.time, s.is⟩ (.bool a) hs (by omega) rfl
  have h2 := h1.putSrc j 1 _ ⟨a, b, s.unread, s.time, s.is⟩ (.bool b) (r.setSrc_at j _ hj) (by omega) rfl
  rw [SCells.setSrc_setSrc] at h2
  have h3 := h2.putSrc j 2 _ ⟨a, b, c, s.time, s.is⟩ c (r.setSrc_at j _ hj) (by omega) rfl
  rw [SCells.setSrc_setSrc] at h3
  have h4 := h3.putSrc j 3 _ ⟨a, b, c, d, s.is⟩ (.int .i64 d) (r.setSrc_at j _ hj) (by omega) rfl
  rw [SCells.setSrc_setSrc] at h4
  have h5 := h4.putSrc j 4 _ ⟨a, b, c, d, e⟩ (.bool e) (r.setSrc_at j _ hj) (by omega) rfl
  rw [SCells.setSrc_setSrc] at h5
  exact h5

/-- A source's moment stored. -/
theorem SF.putMoment {w : World} {g : Nat} {r : SCells} (h : SF w g r) (j : Nat) (s : SSrc) (d : Int) (e : Bool) (hs : r.src[j]? = some s) :
    SF ((w.setCell ⟨g, 6 + j * 5 + 3, none⟩ (.int .i64 d)).setCell ⟨g, 6 + j * 5 + 4, none⟩ (.bool e)) g (r.setSrc j ⟨s.opened, s.broken, s.unread, d, e⟩) := by
  have hj : j < r.src.length := (List.getElem?_eq_some_iff.1 hs).1
  have h4 := h.putSrc j 3 s ⟨s.opened, s.broken, s.unread, d, s.is⟩ (.int .i64 d) hs (by omega) rfl
  have h5 := h4.putSrc j 4 _ ⟨s.opened, s.broken, s.unread, d, e⟩ (.bool e) (r.setSrc_at j _ hj) (by omega) rfl
  rw [SCells.setSrc_setSrc] at h5
  exact h5

/-- The lock's state turned. -/
def SCells.lock (r : SCells) (k : Int) : SCells := { r with lk := k }
theorem SF.putLock {w : World} {g : Nat} {r : SCells} (h : SF w g r) (k : Int) : SF (w.setCell ⟨g, 0, none⟩ (.int .i32 k)) g (r.lock k) := h.putHead 0 _ (by omega) rfl rfl rfl
/-- The line turned. -/
def SCells.setLine (r : SCells) (t : Int) (i : Bool) : SCells := { r with lt := t, li := i }
theorem SF.putLine {w : World} {g : Nat} {r : SCells} (h : SF w g r) (t : Int) (i : Bool) : SF ((w.setCell ⟨g, 46, none⟩ (.int .i64 t)).setCell ⟨g, 47, none⟩ (.bool i)) g (r.setLine t i) := by
  have h1 : SF (w.setCell ⟨g, 46 + 0, none⟩ (.int .i64 t)) g (r.setLine t r.li) := h.putTail 0 _ rfl rfl rfl
  exact h1.putTail 1 (.bool i) rfl rfl rfl

end Go.Proofs.YtcfngdnmpogaoaaGreat
