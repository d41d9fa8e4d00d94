import Derived.Test.YtcfngdnmpogaoaaGreatWalkQ
import Derived.Test.YtcfngdnmpogaoaaGreatWalk12
namespace Go.Proofs.YtcfngdnmpogaoaaGreat
open Go.RowKit

theorem unframe_n (b off cap n : Nat) (l : List UInt8) (w : World) (hn : n = l.length) (hc : Bytes w b off l) (hl : l.length ≤ 9223372036854775807) (hcap : l.length ≤ cap) :
    Calls Tryz.prog 16 #[.slice (some ⟨b, off, none⟩) n cap] w fun e w' => e = .returned (.tuple #[unfV l, .int .i64 (unfN l), .int .i64 (unfE l)]) ∧ Below w.heap.size w w' := by
  subst hn; exact unframe_any b off cap l w hc hl hcap

theorem lent_take (s : ByteArray) : (lentBytes s).take s.size = s.data.toList := by
  rw [lentBytes, List.take_append_of_le_length (by rw [keyLen]; exact Nat.le_refl _), List.take_of_length_le (by rw [keyLen]; exact Nat.le_refl _)]
theorem lent_len (s : ByteArray) : (lentBytes s).length = s.size + 8 := by rw [lentBytes, List.length_append, keyLen]; simp
theorem lent_get1 (s : ByteArray) (j : Nat) (h : j < s.size) (h' : j < (lentBytes s).length) : (lentBytes s)[j] = s[j] := by
  simp only [lentBytes]
  rw [List.getElem_append_left (by rw [keyLen]; exact h)]; rfl
theorem lent_get2 (s : ByteArray) (j : Nat) (h : s.size ≤ j) (h' : j < (lentBytes s).length) : (lentBytes s)[j] = 201 := by
  simp only [lentBytes]
  rw [List.getElem_append_right (by rw [keyLen]; exact h), List.getElem_replicate]

theorem still_lent (g cap : Nat) (s : ByteArray) (w : World) (hs : s.size + 8 ≤ 140737488355328) (h : Bytes w g 0 (lentBytes s)) :
    Calls Tryz.prog 58 #[.slice (some ⟨g, 0, none⟩) (s.size + 8) cap, .string s] w fun e w' => e = .returned (.bool true) ∧ ∃ m, w' = w.drewN m := by
  refine still_any g 0 cap s (s.size + 8) w (by omega) (by omega) (fun j hj => ?_) (fun j hj hj2 => ?_)
  · rw [h j (by rw [lent_len]; omega), lent_get1 s j hj]
  · rw [h j (by rw [lent_len]; omega), lent_get2 s j hj]; rfl

/-- The cells of a box of an item, in whatever later world. -/
theorem item_cells {W : World} {x0 x1 x2 x3 x4 : Value} {t : TypeId} {g : Nat} (h : W.heap[g]? = some (.cells #[x0, x1, x2, x3, x4] t (0, 0))) :
    W.cell? ⟨g, 0, none⟩ = some x0 ∧ W.cell? ⟨g, 1, none⟩ = some x1 ∧ W.cell? ⟨g, 2, none⟩ = some x2 ∧ W.cell? ⟨g, 3, none⟩ = some x3 ∧ W.cell? ⟨g, 4, none⟩ = some x4 := by
  refine ⟨?_, ?_, ?_, ?_, ?_⟩ <;> (rw [cell_of_row W _ _ _ _ _ h]; rfl)

set_option maxRecDepth 20000 in
set_option maxHeartbeats 3200000 in
theorem free_unframe (bw : Nat) (ps hv : Value) (hs : List HoldD) (o : OpD) (w : World) (h : WInv w bw ps hv hs) (hf : o.Fits) (hk : o.kind = 2) (hl : hs.length + 4 ≤ 17592186044416) :
    Calls Tryz.prog 53 #[.pointer (some ⟨bw, 0, none⟩), .agg o.cells] w (StepPost bw ps hv hs w) := by
  have H : Hid (WInv w bw ps hv hs) := h
  have HB : Hid (∀ W, Below (w.heap.size + 1) (w.alloc (.cells o.cells 79)) W → ∀ j, W.cell? ⟨w.heap.size, j, none⟩ = o.cells[j]?) := fun W hW j => op_box hW (by omega) j
  clear h
  obtain ⟨kind, n, source, s, ik, ikey, itime, ivalue, itag, q0, q1, q2, q3⟩ := o
  obtain ⟨hfs, hfk, hft⟩ := hf
  simp only [OpD.cells] at *
  subst hk
  go_enter Tryz.func53, Tryz.ntmps53
  go_wp2_with fail
  refine (lent_any s _ (by omega)).mono ?_
  rintro e W1 ⟨g, rfl, hg1, hr1, hb1⟩
  simp only [World.size_alloc] at hg1 hb1
  have p3 := HB.out W1 hb1 3
  simp only [List.getElem?_toArray, List.getElem?_cons_zero, List.getElem?_cons_succ] at p3
  go_wp2_with fail
  have hby := hr1.bytes.1
  have hby1 : Bytes W1 g 0 s.data.toList := by have := hby.take s.size; rw [lent_take] at this; exact this
  refine (unframe_n g 0 (s.size + 8) s.size s.data.toList W1 (keyLen s).symm hby1 (by rw [keyLen]; omega) (by rw [keyLen]; omega)).mono ?_
  rintro e W2 ⟨rfl, hb2⟩
  obtain ⟨x1, x2, x3, x4, x5, hV⟩ := unfV_cells s.data.toList
  have HV : Hid (unfV s.data.toList = .agg #[.int .i64 x1, .string x2, .int .i64 x3, .int .i64 x4, .int .u32 x5]) := hV
  rw [hV]
  clear hV
  obtain ⟨UN, HN⟩ : ∃ U, Hid (unfN s.data.toList = U) := ⟨_, rfl⟩
  obtain ⟨UE, HE⟩ : ∃ U, Hid (unfE s.data.toList = U) := ⟨_, rfl⟩
  rw [HN.out, HE.out]
  have hs1 := hb1.size
  have hs2 := hb2.size
  have hs0 : (w.alloc (.cells #[.int .i64 2, .int .i64 n, .int .i64 source, .string s, .int .i64 ik, .string ikey, .int .i64 itime, .int .i64 ivalue, .int .u32 (itag : Int), .int .i64 q0, .int .i64 q1, .int .i64 q2, .int .i64 q3] 79)).heap.size = w.heap.size + 1 := by simp
  rw [hs0] at hs1
  have hgW1 := (hr1.blk_lt (k := g) rfl).1
  have hb12 := hb1.trans (hb2.mono (by omega))
  have hr2 := hr1.below hb2 (fun k hk => (hr1.blk_lt hk).1)
  have p3' : ∀ o : Obj, (W2.alloc o).cell? ⟨w.heap.size, 3, none⟩ = some (.string s) := fun o => by
    have := HB.out (W2.alloc o) (hb12.alloc (by omega) o) 3
    simpa using this
  clear p3 hby hby1
  go_wp2_with fail
  refine (runframe_any s _ (by omega)).mono ?_
  rintro e W3 ⟨rfl, hb3⟩
  rw [HV.out, HN.out, HE.out]
  have hs3 := hb3.size
  simp only [World.size_alloc] at hs3
  have hb13 := (hb12.alloc (by omega) _).trans (hb3.mono (by simp; omega))
  have hbx := (hb3.block W2.heap.size (by simp)).trans (heap_alloc_new W2 _)
  have hr3 := (hr2.alloc _).below hb3 (fun k hk => ((hr2.alloc _).blk_lt hk).1)
  have p3'' : ∀ o : Obj, (W3.alloc o).cell? ⟨w.heap.size, 3, none⟩ = some (.string s) := fun o => by
    have := HB.out (W3.alloc o) (hb13.alloc (by omega) o) 3
    simpa using this
  clear p3' hb3 hb12 hb2
  go_wp2_with fail
  refine (still_lent g (s.size + 8) s _ (by omega) ((hr3.alloc _).bytes.1)).mono ?_
  rintro e W4 ⟨rfl, m4, rfl⟩
  have hk4 : Kept (fun _ => False) W3 ((W3.alloc (.cells #[.int .i64 x1, .string x2, .int .i64 x3, .int .i64 x4, .int .u32 x5] 28)).drewN m4) := ((Kept.refl _ W3).alloc _).drewN m4
  have hby4 : ((W3.alloc (.cells #[.int .i64 x1, .string x2, .int .i64 x3, .int .i64 x4, .int .u32 x5] 28)).drewN m4).heap[W3.heap.size]? = some (.cells #[.int .i64 x1, .string x2, .int .i64 x3, .int .i64 x4, .int .u32 x5] 28 (0, 0)) := by
    rw [(below_drewN (Below.refl (W3.heap.size + 1) (W3.alloc (.cells #[.int .i64 x1, .string x2, .int .i64 x3, .int .i64 x4, .int .u32 x5] 28))) m4).block _ (by omega)]
    exact heap_alloc_new W3 _
  have hsz4 : ((W3.alloc (.cells #[.int .i64 x1, .string x2, .int .i64 x3, .int .i64 x4, .int .u32 x5] 28)).drewN m4).heap.size = W3.heap.size + 1 := by simp
  generalize (W3.alloc (.cells #[.int .i64 x1, .string x2, .int .i64 x3, .int .i64 x4, .int .u32 x5] 28)).drewN m4 = W4 at *
  have hbx4 := (hk4.block W2.heap.size (by omega) id).trans hbx
  have hr4 := hr3.kept hk4 (fun _ _ => id)
  have hbw3 : Below w.heap.size w W3 := ((Below.refl _ w).alloc (Nat.le_refl _) _).trans (hb13.mono (by omega))
  have hbw4 : Below w.heap.size w W4 := hbw3.trans (hk4.toBelow (by omega) (fun _ _ => id))
  have Hsz4 : Hid (W4.heap.size = W3.heap.size + 1) := hsz4
  clear p3'' hb13 hbx hr3 hr2 hbw3 hb1 HB hsz4
  have hsz4a : W3.heap.size < W4.heap.size := by rw [Hsz4.out]; omega
  go_wp2_with fail
  refine (keep_step bw W4.heap.size ps hv (.slice (some ⟨g, 0, none⟩) (s.size + 8) (s.size + 8)) hs ((lentBytes s).map byteV) w _ H.out (hbw4.alloc (by omega) _) (heap_alloc_new W4 _) (hr4.alloc _) (by omega) (by intro k hk; simp [Value.ownBlock] at hk; omega) hl (by rw [List.length_map, lent_len]; omega)).mono ?_
  rintro e W5 ⟨⟨v, rfl⟩, hs', hv', h4, hW5, hk5, hk5', hq5⟩
  have hinv4 := (H.out.below hbw4)
  have hx5 : W5.heap[W2.heap.size]? = some (.cells #[.int .i64 x1, .string x2, .int .i64 x3, .int .i64 x4, .int .u32 x5] 28 (0, 0)) := by
    rw [hk5'.block W2.heap.size (by simp; omega) ?_, Below.heap_alloc _ _ _ (by omega)]
    · exact hbx4
    · rintro (e | e | e | e)
      · have := hinv4.blk; rw [← e, hbx4] at this; simp at this
      · exact hinv4.row.ne_block hbx4 (by decide) e
      · omega
      · exact hr4.ne_block hbx4 (by decide) e
  have hy5 : W5.heap[W3.heap.size]? = some (.cells #[.int .i64 x1, .string x2, .int .i64 x3, .int .i64 x4, .int .u32 x5] 28 (0, 0)) := by
    rw [hk5'.block W3.heap.size (by simp; omega) ?_, Below.heap_alloc _ _ _ (by omega)]
    · exact hby4
    · rintro (e | e | e | e)
      · have := hinv4.blk; rw [← e, hby4] at this; simp at this
      · exact hinv4.row.ne_block hby4 (by decide) e
      · omega
      · exact hr4.ne_block hby4 (by decide) e
  obtain ⟨a0, a1, a2, a3, a4⟩ := item_cells hx5
  obtain ⟨b0, b1, b2, b3, b4⟩ := item_cells hy5
  clear hx5 hy5 hk5' hinv4 hby4 hbx4 hr4
  go_wp2
  go_ret
  exact ⟨rfl, hs', hv', h4, hW5, hk5, hq5⟩

end Go.Proofs.YtcfngdnmpogaoaaGreat
