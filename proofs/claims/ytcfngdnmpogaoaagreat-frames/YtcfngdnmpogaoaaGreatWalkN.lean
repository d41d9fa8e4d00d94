import Derived.Test.YtcfngdnmpogaoaaGreatWInv
namespace Go.Proofs.YtcfngdnmpogaoaaGreat
open Go.RowKit

theorem info97 : (Tryz.prog.info? 133).map (fun i => (i.zero, i.size, i.bytes)) = some (some (.pointer none), 1, 8) := by kernel_rfl

set_option maxRecDepth 20000 in
set_option maxHeartbeats 1600000 in
theorem keep_any (bw hb : Nat) (ps hv vb : Value) (hs : List HoldD) (xs : List Value) (B : Nat) (w : World) (h : WInv w bw ps hv hs)
    (hblk : w.heap[hb]? = some (.cells #[vb, .slice none 0 0, .slice none 0 0, .int .i64 0] 135 (0, 0))) (hrow : Row w 5 1 vb xs)
    (hB : ∀ d ∈ hs, d.hb < B ∧ (∀ k, d.vb.ownBlock = some k → k < B) ∧ (∀ k, d.vt.ownBlock = some k → k < B) ∧ (∀ k, d.vw.ownBlock = some k → k < B))
    (hBh : B ≤ hb) (hBv : ∀ k, vb.ownBlock = some k → B ≤ k) (_hBw : B ≤ w.heap.size) (hl1 : hs.length + 4 ≤ 17592186044416) (hl2 : xs.length + 3 ≤ 140737488355328) :
    Calls Tryz.prog 59 #[.pointer (some ⟨bw, 0, none⟩), .pointer (some ⟨hb, 0, none⟩)] w fun e w' => (∃ v, e = .returned v) ∧
      ∃ hs' hv', hs'.length = 4 ∧ WInv w' bw ps hv' (hs ++ hs') ∧ Kept (fun k => k = bw ∨ hv.ownBlock = some k ∨ k = hb ∨ vb.ownBlock = some k) w w' ∧ (∀ k, hv'.ownBlock = some k → hv.ownBlock = some k ∨ B ≤ k) := by
  obtain ⟨i97, hi97, hz970, hz971, hz972⟩ := info_parts info97
  obtain ⟨c0, c1, fw, hbw⟩ := world_cells h.blk
  obtain ⟨d0, d1, d2, d3, fh, hbh⟩ := hold_cells hblk
  obtain ⟨ah, ch, hvh, -⟩ := h.row.len (by decide)
  rw [List.length_map, Nat.div_one] at hvh
  subst hvh
  have hne : ¬ bw = hb := fun e => by have := h.blk; rw [e, hblk] at this; simp at this
  have hne' : ¬ hb = bw := fun e => hne e.symm
  go_enter Tryz.func59, Tryz.ntmps59
  go_wp2_with fail
  -- marks
  obtain ⟨M, HM⟩ : ∃ M : Int, Hid ((hs.length : Int) + 1 = M) := ⟨_, rfl⟩
  rw [HM.out]
  have hblk0 := put3 (y := .int .i64 M) hblk
  have hrow0 := hrow.setCell ⟨hb, 3, none⟩ (.int .i64 M) (hrow.ne_block hblk (by decide))
  obtain ⟨T, HT⟩ : ∃ T : Nat → Prop, Hid (T = fun k => k = bw ∨ (Value.slice ah hs.length ch).ownBlock = some k ∨ k = hb ∨ vb.ownBlock = some k ∨ w.heap.size ≤ k) := ⟨_, rfl⟩
  have hTb : Hid (T bw) := by show T bw; rw [HT.out]; exact .inl rfl
  have hTv : Hid (∀ k, (Value.slice ah hs.length ch).ownBlock = some k → T k) := by intro k e; rw [HT.out]; exact .inr (.inl e)
  have hTh : Hid (T hb) := by show T hb; rw [HT.out]; exact .inr (.inr (.inl rfl))
  have hTr : Hid (∀ k, vb.ownBlock = some k → T k) := by intro k e; rw [HT.out]; exact .inr (.inr (.inr (.inl e)))
  have hTn : Hid (∀ k, w.heap.size ≤ k → T k) := by intro k e; rw [HT.out]; exact .inr (.inr (.inr (.inr e)))
  have hk0 : Kept T w (w.setCell ⟨hb, 3, none⟩ (.int .i64 M)) := (Kept.refl _ w).setCell _ _ (fun _ => hTh.out)
  have hk0' : Kept (fun k => k = hb) w (w.setCell ⟨hb, 3, none⟩ (.int .i64 M)) := (Kept.refl _ w).setCell _ _ (fun _ => rfl)
  generalize w.setCell ⟨hb, 3, none⟩ (.int .i64 M) = w0 at *
  refine (marks_bytes hb M vb xs w0 hblk0 hrow0 (by omega)).mono ?_
  rintro e W1 ⟨⟨v, rfl⟩, hrow1, hk1⟩
  have hblk1 := (hk1.block hb (by have := hk0.size; omega) (hrow0.ne_block hblk0 (by decide))).trans hblk0
  have hinv1 : WInv W1 bw ps (.slice ah hs.length ch) hs := by
    have hb0 := (hk0'.block bw hbw (by omega)).trans h.blk
    have hr0 := h.row.kept hk0' (fun k hk => by rintro rfl; exact h.row.ne_block hblk (by decide) hk)
    refine ⟨(hk1.block bw (by have := hk0.size; omega) (hrow0.ne_block hb0 (by decide))).trans hb0, hr0.kept hk1 (fun k hk => hr0.apart hrow0 (by decide) hk), fun d hd => ?_⟩
    obtain ⟨q0, q1, q2, q3⟩ := hB d hd
    have hd0 := (h.holds d hd).kept hk0' (by omega) (fun k hk => by have := q1 k hk; omega) (fun k hk => by have := q2 k hk; omega) (fun k hk => by have := q3 k hk; omega)
    refine hd0.kept hk1 (fun e => by have := hBv _ e; omega) (fun k hk e => ?_) (fun k hk e => ?_) (fun k hk e => ?_)
    · have := q1 k hk; have := hBv _ e; omega
    · have := q2 k hk; have := hBv _ e; omega
    · have := q3 k hk; have := hBv _ e; omega
  have hd1 : Hold W1 ⟨hb, M, xs.length, 0, 0, vb, .slice none 0 0, .slice none 0 0⟩ := ⟨hblk1, hrow1, Row.nil _ _ _, Row.nil _ _ _, by simp only; omega, by simp only; omega, by simp only; omega⟩
  have hkw1 : Kept T w W1 := hk0.step hk1 (fun i _ e => hTr.out i e)
  have hs0 := hk0.size
  have hs1 := hk1.size
  clear hk0 hk0' hblk0 hrow0 hk1 hrow1 d0 d1 d2 d3 fh c0 c1 fw hblk hrow
  obtain ⟨c0, c1, fw, hbw1⟩ := world_cells hinv1.blk
  have hr97 := hinv1.row
  have hln : (hs.map fun d => Value.pointer (some ⟨d.hb, 0, none⟩)).length = hs.length := List.length_map ..
  generalize hptrs : (hs.map fun d => Value.pointer (some ⟨d.hb, 0, none⟩)) = ptrs at *
  have Hptrs : Hid ((hs.map fun d => Value.pointer (some ⟨d.hb, 0, none⟩)) = ptrs) := hptrs
  clear hptrs
  generalize hhv : Value.slice ah hs.length ch = hv0 at *
  have Hhv : Hid (Value.slice ah hs.length ch = hv0) := hhv
  clear hhv
  go_wp2_with (at_builtin; go_must (refine wpList_append _ rfl _ _ _ _ rfl 133 i97 (.pointer none) 1 8 Tryz.underlying82 hi97 hz970 hz971 hz972 rfl Nat.one_pos hv0 ptrs rfl (hr97.alloc _) (.slice (some ⟨W1.heap.size, 0, none⟩) 1 1) 1 [.pointer (some ⟨hb, 0, none⟩)] rfl ?hsrc Nat.one_pos ?h63 ?hby ?next))
  case hsrc => exact Src.ofSlice _ Tryz.underlying82 ⟨W1.heap.size, 0, none⟩ 1 1 _ rfl (one_new W1 _ _) (by simp [Value.oneCell'])
  case h63 => simp only [maxLen]; omega
  case hby => omega
  intro v1 w1 ha1
  rw [← Hptrs.out] at ha1
  have hbb1 := App.other ha1 hinv1.row hinv1.blk (by decide)
  obtain ⟨e0, e1, fw1, hbw2⟩ := world_cells hbb1
  obtain ⟨g1, o1, n1, k1, hv1, -, -⟩ := ha1.row.shape (by simp)
  subst hv1
  clear c0 c1 fw
  go_wp2
  generalize Value.slice (some ⟨g1, o1, none⟩) n1 k1 = v1 at *
  obtain ⟨p1, p2, p3⟩ := hinv1.put hd1 ha1
  have hK : KInv T w (w1.setCell ⟨bw, 1, none⟩ v1) bw ps hs xs.length 0 ⟨hb, M, xs.length, 0, 0, vb, .slice none 0 0, .slice none 0 0⟩ v1 [⟨hb, M, xs.length, 0, 0, vb, .slice none 0 0, .slice none 0 0⟩] := by
    refine ⟨p1, rfl, by simp, hkw1.step p2 (fun i _ e => by rcases e with e | e; (rw [e]; exact hTb.out); exact hTv.out i e), stepped_in p3 (by omega) hTn.out hTv.out, ⟨rfl, rfl, rfl⟩, hTr.out, by simp [Value.ownBlock], by simp [Value.ownBlock], ?_⟩
    · intro d' hd'
      rcases List.mem_append.1 hd' with h' | h'
      · obtain ⟨q0, q1, q2, q3⟩ := hB d' h'
        have hh := h.holds d' h'
        refine ⟨fun e => ?_, fun e => ?_, fun e => ?_⟩
        · simp only at e ⊢
          cases hvo : vb.ownBlock with
          | none =>
            rw [hvo] at e
            obtain ⟨r1, r2⟩ := hh.rb.none e
            have r3 := congrArg List.length r2
            rw [signs_len] at r3
            have : offOf vb = 0 := by
              obtain ⟨r4, _⟩ := hd1.rb.none hvo
              exact r4
            simp at r3
            omega
          | some k =>
            rw [hvo] at e
            have := q1 k e; have := hBv k hvo; omega
        · obtain ⟨r1, r2⟩ := hh.rt.none e
          have r3 := congrArg List.length r2
          rw [tagsOf_len] at r3
          simp at r3
          exact ⟨r1, by omega⟩
        · obtain ⟨r1, r2⟩ := hh.rw_.none e
          have r3 := congrArg List.length r2
          rw [winOf_len] at r3
          simp at r3
          exact ⟨r1, by omega⟩
      · rw [List.mem_singleton.1 h']; exact Linked.refl _
  have HK : Hid (KInv T w (w1.setCell ⟨bw, 1, none⟩ v1) bw ps hs xs.length 0 ⟨hb, M, xs.length, 0, 0, vb, .slice none 0 0, .slice none 0 0⟩ v1 [⟨hb, M, xs.length, 0, 0, vb, .slice none 0 0, .slice none 0 0⟩]) := hK
  clear hK p1 p2 p3 ha1 hbb1 e0 e1 fw1 hbw2
  generalize w1.setCell ⟨bw, 1, none⟩ v1 = W2 at *
  go_loopw [4, 5] (fun gp c wr => ∃ (n : Nat) (d : HoldD) (hvn : Value) (hsn : List HoldD), n ≤ 3 ∧ c = .int .i64 (n : Int) ∧ gp = .pointer (some ⟨d.hb, 0, none⟩) ∧ KInv T w wr bw ps hs xs.length n d hvn hsn) (fun _ c _ => 3 - (intOf c).toNat)
  case atStart => exact ⟨0, _, _, _, by omega, rfl, rfl, HK.out⟩
  case round =>
    obtain ⟨n, d, hvn, hsn, hn, rfl, rfl, hKI⟩ := hrel
    clear HK hinv1 hd1 hkw1 hbw1 hr97 hblk1
    by_cases hn3 : n < 3
    · have HK : Hid (KInv T w wr bw ps hs xs.length n d hvn hsn) := hKI
      have hdd := hKI.inv.holds d (List.mem_append_right _ hKI.mem)
      obtain ⟨m1, m2, m3⟩ := hKI.nums
      obtain ⟨hb2, M2, nb2, nt2, nw2, vb2, vt2, vw2⟩ := d
      simp only at m1 m2 m3 ⊢
      have Hdd : Hid (Hold wr ⟨hb2, M2, nb2, nt2, nw2, vb2, vt2, vw2⟩) := hdd
      have M1 : Hid (nb2 = xs.length + n) := m1
      have M2' : Hid (nt2 = n) := m2
      have M3 : Hid (nw2 = n) := m3
      clear hKI hdd m1 m2 m3
      go_wp2_with fail
      refine (longer_any hb2 M2 nb2 nt2 nw2 vb2 vt2 vw2 wr Hdd.out (by rw [M1.out]; omega) (by rw [M2'.out]; omega) (by rw [M3.out]; omega)).mono ?_
      rintro e W3 ⟨d1, rfl, hL⟩
      have hinv3 := HK.out.inv.longer Hdd.out hL HK.out.links
      have hm3 := HK.out.many
      have HL : Hid (Longer wr W3 ⟨hb2, M2, nb2, nt2, nw2, vb2, vt2, vw2⟩ d1) := hL
      clear hL
      obtain ⟨c0, c1, fw, hbw3⟩ := world_cells hinv3.blk
      have hr97 := hinv3.row
      have hln : ((hs ++ hsn).map fun d => Value.pointer (some ⟨d.hb, 0, none⟩)).length = hs.length + (n + 1) := by rw [List.length_map, List.length_append, hm3]
      generalize hptrs : ((hs ++ hsn).map fun d => Value.pointer (some ⟨d.hb, 0, none⟩)) = ptrs at *
      have Hptrs : Hid (((hs ++ hsn).map fun d => Value.pointer (some ⟨d.hb, 0, none⟩)) = ptrs) := hptrs
      clear hptrs
      go_wp2_with (at_builtin; go_must (refine wpList_append _ rfl _ _ _ _ rfl 133 i97 (.pointer none) 1 8 Tryz.underlying82 hi97 hz970 hz971 hz972 rfl Nat.one_pos hvn ptrs rfl (hr97.alloc _) (.slice (some ⟨W3.heap.size, 0, none⟩) 1 1) 1 [.pointer (some ⟨d1.hb, 0, none⟩)] rfl ?hsrc2 Nat.one_pos ?h632 ?hby2 ?next2))
      case hsrc2 => exact Src.ofSlice _ Tryz.underlying82 ⟨W3.heap.size, 0, none⟩ 1 1 _ rfl (one_new W3 _ _) (by simp [Value.oneCell'])
      case h632 => simp only [maxLen]; omega
      case hby2 => omega
      intro v4 w4 ha4
      rw [← Hptrs.out] at ha4
      have hbb4 := App.other ha4 hinv3.row hinv3.blk (by decide)
      obtain ⟨e0, e1, fw1, hbw4⟩ := world_cells hbb4
      obtain ⟨g1, o1, n1, k1, hv1, -, -⟩ := ha4.row.shape (by simp)
      subst hv1
      clear c0 c1 fw
      go_wp2
      generalize Value.slice (some ⟨g1, o1, none⟩) n1 k1 = v4 at *
      have hK2 := HK.out.step hTn.out hTb.out HL.out ha4
      go_roundw
      case rel => exact ⟨n + 1, d1, v4, hsn ++ [d1], by omega, by go_num, rfl, hK2⟩
      case measure => simp [intOf]; omega
    · have hn' : n = 3 := by omega
      subst hn'
      have HK : Hid (KInv T w wr bw ps hs xs.length 3 d hvn hsn) := hKI
      clear hKI
      go_wp2
      go_end0
      refine ⟨⟨_, rfl⟩, hsn, hvn, HK.out.many, HK.out.inv, ?_, ?_⟩
      rotate_left
      · intro k hk
        have hTk := HK.out.hvb k hk
        rw [HT.out] at hTk
        rcases hTk with e | e | e | e | e
        · rw [e] at hk; exact absurd hk (HK.out.inv.row.ne_block HK.out.inv.blk (by decide))
        · exact .inl (by rw [Hhv.out]; exact e)
        · exact .inr (by omega)
        · exact .inr (hBv k e)
        · exact .inr (by omega)
      have hkk := HK.out.kept
      rw [HT.out] at hkk
      refine hkk.mono (fun k hk e => ?_)
      rcases e with e | e | e | e | e
      · exact .inl e
      · exact .inr (.inl (by rw [Hhv.out]; exact e))
      · exact .inr (.inr (.inl e))
      · exact .inr (.inr (.inr e))
      · omega

end Go.Proofs.YtcfngdnmpogaoaaGreat
