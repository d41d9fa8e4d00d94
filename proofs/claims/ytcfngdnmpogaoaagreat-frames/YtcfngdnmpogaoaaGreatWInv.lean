import Derived.Test.YtcfngdnmpogaoaaGreatWalkK
namespace Go.Proofs.YtcfngdnmpogaoaaGreat
open Go.RowKit

/-- What a script has made: the world's block, its holds. -/
structure WInv (w : World) (bw : Nat) (ps hv : Value) (hs : List HoldD) : Prop where
  blk : w.heap[bw]? = some (.cells #[ps, hv] 84 (0, 0))
  row : Row w 133 1 hv (hs.map fun d => .pointer (some ⟨d.hb, 0, none⟩))
  holds : ∀ d ∈ hs, Hold w d

theorem Hold.kept {X : Nat → Prop} {w W : World} {d : HoldD} (h : Hold w d) (hk : Kept X w W) (h0 : ¬ X d.hb) (h1 : ∀ k, d.vb.ownBlock = some k → ¬ X k) (h2 : ∀ k, d.vt.ownBlock = some k → ¬ X k) (h3 : ∀ k, d.vw.ownBlock = some k → ¬ X k) : Hold W d :=
  ⟨(hk.block d.hb (Array.getElem?_eq_some_iff.1 h.blk).1 h0).trans h.blk, h.rb.kept hk h1, h.rt.kept hk h2, h.rw_.kept hk h3, h.lb, h.lt, h.lw⟩

theorem world_cells {w : World} {bw : Nat} {x0 x1 : Value} {t : TypeId} (h : w.heap[bw]? = some (.cells #[x0, x1] t (0, 0))) :
    w.cell? ⟨bw, 0, none⟩ = some x0 ∧ w.cell? ⟨bw, 1, none⟩ = some x1 ∧ (∀ j, w.frozen? ⟨bw, j, none⟩ = false) ∧ bw < w.heap.size := by
  refine ⟨?_, ?_, fun j => frozen_of_row w _ j _ _ h, (Array.getElem?_eq_some_iff.1 h).1⟩ <;> (rw [cell_of_row w _ _ _ _ _ h]; rfl)

/-- Behind 'w.holds = append(w.holds, h)'. -/
theorem WInv.put {W w1 : World} {bw : Nat} {ps hv hv1 : Value} {hs : List HoldD} {d : HoldD} {o : Obj} (h : WInv W bw ps hv hs) (hd : Hold W d)
    (ha : App (W.alloc o) w1 133 1 hv hv1 (hs.map fun d => .pointer (some ⟨d.hb, 0, none⟩)) [.pointer (some ⟨d.hb, 0, none⟩)]) :
    WInv (w1.setCell ⟨bw, 1, none⟩ hv1) bw ps hv1 (hs ++ [d]) ∧ Kept (fun k => k = bw ∨ hv.ownBlock = some k) W (w1.setCell ⟨bw, 1, none⟩ hv1) ∧ Stepped W hv hv1 := by
  have hb1 := App.other ha h.row h.blk (by decide)
  have hgr : Grew bw W (w1.setCell ⟨bw, 1, none⟩ hv1) 133 1 hv hv1 _ _ := Grew.of ha hb1 (by decide)
  have hH : ∀ d, Hold W d → Hold (w1.setCell ⟨bw, 1, none⟩ hv1) d := fun d hd => by
    refine hd.kept hgr.kept ?_ ?_ ?_ ?_
    · rintro (e | e)
      · exact h.row.ne_block hd.blk (by decide) e
      · have hq := h.blk; rw [← e, hd.blk] at hq; simp at hq
    · intro k hk; rintro (e | e)
      · exact hd.rb.apart h.row (by decide) hk e
      · subst e; exact hd.rb.ne_block h.blk (by decide) hk
    · intro k hk; rintro (e | e)
      · exact hd.rt.apart h.row (by decide) hk e
      · subst e; exact hd.rt.ne_block h.blk (by decide) hk
    · intro k hk; rintro (e | e)
      · exact hd.rw_.apart h.row (by decide) hk e
      · subst e; exact hd.rw_.ne_block h.blk (by decide) hk
  refine ⟨⟨heap_setCell_same w1 bw 1 _ _ hv1 hb1, by simpa using hgr.row, fun d' hd' => ?_⟩, ?_, hgr.step⟩
  · rcases List.mem_append.1 hd' with h' | h'
    · exact hH _ (h.holds _ h')
    · rw [List.mem_singleton.1 h']; exact hH _ hd
  · exact hgr.kept.mono (fun k _ h => h.symm)


/-- Where a hold shares a list's block with the last one of its chain it ends ahead of it. -/
def Linked (d' d : HoldD) : Prop :=
  (d'.vb.ownBlock = d.vb.ownBlock → offOf d'.vb = offOf d.vb ∧ d'.nb ≤ d.nb) ∧
  (d'.vt.ownBlock = d.vt.ownBlock → offOf d'.vt = offOf d.vt ∧ d'.nt ≤ d.nt) ∧
  (d'.vw.ownBlock = d.vw.ownBlock → offOf d'.vw = offOf d.vw ∧ d'.nw ≤ d.nw)

theorem Linked.refl (d : HoldD) : Linked d d := ⟨fun _ => ⟨rfl, Nat.le_refl _⟩, fun _ => ⟨rfl, Nat.le_refl _⟩, fun _ => ⟨rfl, Nat.le_refl _⟩⟩

theorem Row.none {w : World} {e : TypeId} {sz : Nat} {v : Value} {xs : List Value} (h : Row w e sz v xs) (hn : v.ownBlock = none) : offOf v = 0 ∧ xs = [] := by
  rcases h with ⟨rfl, h⟩ | ⟨g, off, n, cap, cur, rfl, _⟩
  · exact ⟨rfl, h⟩
  · simp [Value.ownBlock] at hn

theorem link_one {w : World} {e : TypeId} {sz : Nat} {u v v1 : Value} {ys : List Value} {nu n n1 : Nat} (hu : Row w e sz u ys) (hs : Stepped w v v1) (hn : n ≤ n1) (hl : u.ownBlock = v.ownBlock → offOf u = offOf v ∧ nu ≤ n) : u.ownBlock = v1.ownBlock → offOf u = offOf v1 ∧ nu ≤ n1 := by
  intro he
  rcases hs with ⟨h1, h2⟩ | ⟨k, h1, h2⟩
  · have := hl (he.trans h1)
    exact ⟨this.1.trans h2.symm, by omega⟩
  · rw [h1] at he
    have := (hu.blk_lt he).1
    omega

theorem Longer.linked {W W' : World} {d d1 d' : HoldD} (hL : Longer W W' d d1) (hd' : Hold W d') (hl : Linked d' d) : Linked d' d1 := by
  obtain ⟨_, e1, e2, e3⟩ := hL.same
  exact ⟨link_one hd'.rb hL.pb (by omega) hl.1, link_one hd'.rt hL.pt (by omega) hl.2.1, link_one hd'.rw_ hL.pw (by omega) hl.2.2⟩

theorem Longer.holds {W W' : World} {d d1 d' : HoldD} (hL : Longer W W' d d1) (hd : Hold W d) (hd' : Hold W d') (hl : Linked d' d) : Hold W' d' := by
  refine ⟨(hL.kept.block d'.hb (Array.getElem?_eq_some_iff.1 hd'.blk).1 ?_).trans hd'.blk, ?_, ?_, ?_, hd'.lb, hd'.lt, hd'.lw⟩
  · rintro (h | h | h)
    · exact hd.rb.ne_block hd'.blk (by decide) h
    · exact hd.rt.ne_block hd'.blk (by decide) h
    · exact hd.rw_.ne_block hd'.blk (by decide) h
  · exact hL.sb _ _ hd'.rb (fun e => by rw [signs_len]; exact hl.1 e)
  · exact hL.st _ _ hd'.rt (fun e => by rw [tagsOf_len]; exact hl.2.1 e)
  · exact hL.sw _ _ hd'.rw_ (fun e => by rw [winOf_len]; have := hl.2.2 e; exact ⟨this.1, by omega⟩)

/-- WInv behind a step that turns only blocks of the lists of a hold. -/
theorem WInv.longer {W W' : World} {bw : Nat} {ps hv : Value} {hs : List HoldD} {d d1 : HoldD} (h : WInv W bw ps hv hs) (hd : Hold W d) (hL : Longer W W' d d1) (hl : ∀ d' ∈ hs, Linked d' d) : WInv W' bw ps hv hs := by
  refine ⟨(hL.kept.block bw (Array.getElem?_eq_some_iff.1 h.blk).1 ?_).trans h.blk, h.row.kept hL.kept ?_, fun d' hd' => hL.holds hd (h.holds d' hd') (hl d' hd')⟩
  · rintro (e | e | e)
    · exact hd.rb.ne_block h.blk (by decide) e
    · exact hd.rt.ne_block h.blk (by decide) e
    · exact hd.rw_.ne_block h.blk (by decide) e
  · intro k hk
    rintro (e | e | e)
    · exact h.row.apart hd.rb (by decide) hk e
    · exact h.row.apart hd.rt (by decide) hk e
    · exact h.row.apart hd.rw_ (by decide) hk e

/-- 'keep', n rounds on; T: the blocks that it may turn. -/
structure KInv (T : Nat → Prop) (w W : World) (bw : Nat) (ps : Value) (hs : List HoldD) (len n : Nat) (d : HoldD) (hvn : Value) (hsn : List HoldD) : Prop where
  inv : WInv W bw ps hvn (hs ++ hsn)
  many : hsn.length = n + 1
  mem : d ∈ hsn
  kept : Kept T w W
  hvb : ∀ k, hvn.ownBlock = some k → T k
  nums : d.nb = len + n ∧ d.nt = n ∧ d.nw = n
  bb : ∀ k, d.vb.ownBlock = some k → T k
  bt : ∀ k, d.vt.ownBlock = some k → T k
  bwd : ∀ k, d.vw.ownBlock = some k → T k
  links : ∀ d' ∈ hs ++ hsn, Linked d' d

theorem stepped_in {T : Nat → Prop} {w W : World} {v v1 : Value} (h : Stepped W v v1) (hs : w.heap.size ≤ W.heap.size) (hT : ∀ k, w.heap.size ≤ k → T k) (hv : ∀ k, v.ownBlock = some k → T k) : ∀ k, v1.ownBlock = some k → T k := by
  intro k hk
  rcases h with ⟨h1, _⟩ | ⟨k', h1, h2⟩
  · exact hv k (h1 ▸ hk)
  · rw [h1] at hk; simp only [Option.some.injEq] at hk; exact hT k (by omega)

/-- One round of keep's loop. -/
theorem KInv.step {T : Nat → Prop} {w W W' w1 : World} {bw : Nat} {ps hvn hv1 : Value} {hs hsn : List HoldD} {len n : Nat} {d d1 : HoldD} {o : Obj} (h : KInv T w W bw ps hs len n d hvn hsn) (hT : ∀ k, w.heap.size ≤ k → T k) (hTb : T bw) (hL : Longer W W' d d1)
    (ha : App (W'.alloc o) w1 133 1 hvn hv1 ((hs ++ hsn).map fun d => .pointer (some ⟨d.hb, 0, none⟩)) [.pointer (some ⟨d1.hb, 0, none⟩)]) :
    KInv T w (w1.setCell ⟨bw, 1, none⟩ hv1) bw ps hs len (n + 1) d1 hv1 (hsn ++ [d1]) := by
  have hd := h.inv.holds d (List.mem_append_right _ h.mem)
  have hW' := h.inv.longer hd hL h.links
  obtain ⟨p1, p2, p3⟩ := hW'.put hL.hold ha
  obtain ⟨_, e1, e2, e3⟩ := hL.same
  obtain ⟨n1, n2, n3⟩ := h.nums
  have hs1 : w.heap.size ≤ W.heap.size := h.kept.size
  have hs2 : W.heap.size ≤ W'.heap.size := hL.kept.size
  refine ⟨by rw [List.append_assoc] at p1; exact p1, by simp [h.many], by simp, ?_, stepped_in p3 (by omega) hT h.hvb, ⟨by omega, by omega, by omega⟩, stepped_in hL.pb (by omega) hT h.bb, stepped_in hL.pt (by omega) hT h.bt, stepped_in hL.pw (by omega) hT h.bwd, ?_⟩
  · refine (h.kept.step hL.kept ?_).step p2 ?_
    · intro i hi
      rintro (e | e | e)
      · exact h.bb i e
      · exact h.bt i e
      · exact h.bwd i e
    · intro i hi
      rintro (e | e)
      · rw [e]; exact hTb
      · exact h.hvb i e
  · intro d' hd'
    rw [← List.append_assoc] at hd'
    rcases List.mem_append.1 hd' with h' | h'
    · exact hL.linked (h.inv.holds d' h') (h.links d' h')
    · rw [List.mem_singleton.1 h']; exact Linked.refl _

end Go.Proofs.YtcfngdnmpogaoaaGreat
