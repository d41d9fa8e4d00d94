import Derived.Test.YtcfngdnmpogaoaaGreatWalkO
import Derived.Test.YtcfngdnmpogaoaaGreatWalkP
import Derived.Test.YtcfngdnmpogaoaaGreatWalkS
import Derived.Test.YtcfngdnmpogaoaaGreatWalk11
namespace Go.Proofs.YtcfngdnmpogaoaaGreat
open Go.RowKit

/-- A step of a script, as its cells. -/
structure OpD where
  kind : Int
  n : Int
  source : Int
  s : ByteArray
  ik : Int
  ikey : ByteArray
  itime : Int
  ivalue : Int
  itag : Nat
  c0 : Int
  c1 : Int
  c2 : Int
  c3 : Int

def OpD.cells (o : OpD) : Array Value := #[.int .i64 o.kind, .int .i64 o.n, .int .i64 o.source, .string o.s, .int .i64 o.ik, .string o.ikey, .int .i64 o.itime, .int .i64 o.ivalue, .int .u32 (o.itag : Int), .int .i64 o.c0, .int .i64 o.c1, .int .i64 o.c2, .int .i64 o.c3]

/-- What a script's step may be in size. -/
structure OpD.Fits (o : OpD) : Prop where
  s : o.s.size + 11 ≤ 140737488355328
  key : o.ikey.size ≤ 9223372036854775807
  tag : o.itag < 4294967296

theorem rframe_yes (kind : Int) (key : ByteArray) (time value : Int) (tag : Nat) (w : World) (hk : key.size ≤ 9223372036854775807) (h : isItemB kind key value tag = true) (ht : tag < 4294967296) :
    Calls Tryz.prog 31 #[.agg #[.int .i64 kind, .string key, .int .i64 time, .int .i64 value, .int .u32 (tag : Int)]] w fun e w' =>
      e = .returned (.tuple #[.string (str (frameBytes kind key time value tag)), .int .i64 0]) ∧ Below w.heap.size w w' := by
  rcases isItemB_cases h with ⟨rfl, _⟩ | ⟨rfl, h1, h8⟩
  · exact rframe_mark key time value tag w hk h ht
  · exact rframe_event key time value tag w h1 h8 h ht

theorem WInv.bound {w : World} {bw : Nat} {ps hv : Value} {hs : List HoldD} (h : WInv w bw ps hv hs) : ∀ d ∈ hs, d.hb < w.heap.size ∧ (∀ k, d.vb.ownBlock = some k → k < w.heap.size) ∧ (∀ k, d.vt.ownBlock = some k → k < w.heap.size) ∧ (∀ k, d.vw.ownBlock = some k → k < w.heap.size) := fun d hd =>
  ⟨(Array.getElem?_eq_some_iff.1 (h.holds d hd).blk).1, fun _ hk => ((h.holds d hd).rb.blk_lt hk).1, fun _ hk => ((h.holds d hd).rt.blk_lt hk).1, fun _ hk => ((h.holds d hd).rw_.blk_lt hk).1⟩

/-- What a step leaves. -/
def StepPost (bw : Nat) (ps hv : Value) (hs : List HoldD) (w : World) (e : Ending) (w' : World) : Prop :=
  e = .returned (.bool true) ∧ ∃ hs' hv', hs'.length = 4 ∧ WInv w' bw ps hv' (hs ++ hs') ∧ Kept (fun k => k = bw ∨ hv.ownBlock = some k) w w' ∧ (∀ k, hv'.ownBlock = some k → hv.ownBlock = some k ∨ w.heap.size ≤ k)

theorem conv_nil (W : World) : (convert 30 9 (.slice none 0 0)).run Tryz.prog W = .ok (.string ⟨#[]⟩) W := by
  rw [run_convert_bytes_string (P := Tryz.prog) W 30 9 5 none 0 0 Tryz.underlying30 Tryz.underlying5 Tryz.underlying9]
  simp [Conv.bytesToString]
  rfl

theorem op_box {w W : World} {o : OpD} {B : Nat} (hb : Below B (w.alloc (.cells o.cells 79)) W) (hB : w.heap.size < B) (j : Nat) : W.cell? ⟨w.heap.size, j, none⟩ = o.cells[j]? := by
  rw [hb.cell (by exact hB), cell_of_row _ _ _ _ _ _ (heap_alloc_new w _)]

/-- 'keep' at the end of a step. -/
theorem keep_step (bw hb : Nat) (ps hv vb : Value) (hs : List HoldD) (xs : List Value) (w W : World) (h : WInv w bw ps hv hs) (hbl : Below w.heap.size w W)
    (hblk : W.heap[hb]? = some (.cells #[vb, .slice none 0 0, .slice none 0 0, .int .i64 0] 135 (0, 0))) (hrow : Row W 5 1 vb xs)
    (hBh : w.heap.size ≤ hb) (hBv : ∀ k, vb.ownBlock = some k → w.heap.size ≤ k) (hl1 : hs.length + 4 ≤ 17592186044416) (hl2 : xs.length + 3 ≤ 140737488355328) :
    Calls Tryz.prog 59 #[.pointer (some ⟨bw, 0, none⟩), .pointer (some ⟨hb, 0, none⟩)] W fun e w' => (∃ v, e = .returned v) ∧
      ∃ hs' hv', hs'.length = 4 ∧ WInv w' bw ps hv' (hs ++ hs') ∧ Kept (fun k => k = bw ∨ hv.ownBlock = some k) w w' ∧ Kept (fun k => k = bw ∨ hv.ownBlock = some k ∨ k = hb ∨ vb.ownBlock = some k) W w' ∧ (∀ k, hv'.ownBlock = some k → hv.ownBlock = some k ∨ w.heap.size ≤ k) := by
  refine (keep_any bw hb ps hv vb hs xs w.heap.size W (h.below hbl) hblk hrow h.bound hBh hBv hbl.size hl1 hl2).mono ?_
  rintro e w' ⟨hv', hs', hvn, h4, hW, hk, hq⟩
  refine ⟨hv', hs', hvn, h4, hW, (Kept.ofBelow hbl _).step hk ?_, hk, hq⟩
  intro i hi
  rintro (e | e | e | e)
  · exact .inl e
  · exact .inr e
  · omega
  · have := hBv i e; omega

set_option maxRecDepth 20000 in
set_option maxHeartbeats 1600000 in
theorem free_frame_no (bw : Nat) (ps hv : Value) (hs : List HoldD) (o : OpD) (w : World) (h : WInv w bw ps hv hs) (hf : o.Fits) (hk : o.kind = 1) (hl : hs.length + 4 ≤ 17592186044416) (hi : isItemB o.ik o.ikey o.ivalue o.itag = false) :
    Calls Tryz.prog 53 #[.pointer (some ⟨bw, 0, none⟩), .agg o.cells] w (StepPost bw ps hv hs w) := by
  have H : Hid (WInv w bw ps hv hs) := h
  have HB : Hid (∀ W, Below (w.heap.size + 1) (w.alloc (.cells o.cells 79)) W → ∀ j, W.cell? ⟨w.heap.size, j, none⟩ = o.cells[j]?) := fun W hW j => op_box hW (by omega) j
  clear h
  obtain ⟨kind, n, source, s, ik, ikey, itime, ivalue, itag, q0, q1, q2, q3⟩ := o
  obtain ⟨hfs, hfk, hft⟩ := hf
  simp only [OpD.cells] at *
  subst hk
  have hcn := conv_nil
  go_enter Tryz.func53, Tryz.ntmps53
  go_wp2_with fail
  refine (frame_no ik ikey itime ivalue itag _ hfk hi).mono ?_
  rintro e W1 ⟨rfl, hb1⟩
  have hb1 : Below (w.heap.size + 1) (w.alloc (.cells #[.int .i64 1, .int .i64 n, .int .i64 source, .string s, .int .i64 ik, .string ikey, .int .i64 itime, .int .i64 ivalue, .int .u32 (itag : Int), .int .i64 q0, .int .i64 q1, .int .i64 q2, .int .i64 q3] 79)) W1 := hb1.mono (by simp)
  have hc := HB.out W1 hb1
  have p4 := hc 4
  have p5 := hc 5
  have p6 := hc 6
  have p7 := hc 7
  have p8 := hc 8
  simp only [List.getElem?_toArray, List.getElem?_cons_zero, List.getElem?_cons_succ] at p4 p5 p6 p7 p8
  clear hc
  go_wp2_with fail
  refine (rframe_no ik ikey itime ivalue itag _ hfk hi).mono ?_
  rintro e W2 ⟨rfl, hb2⟩
  have hs1 := hb1.size
  have hs2 := hb2.size
  simp only [World.size_alloc] at hs1
  have hbw2 : Below w.heap.size w W2 := (((Below.refl _ w).alloc (Nat.le_refl _) _).trans (hb1.mono (by omega))).trans (hb2.mono (by omega))
  clear p4 p5 p6 p7 p8 hb1 hb2
  go_wp2_with fail
  refine (keep_step bw W2.heap.size ps hv (.slice none 0 0) hs [] w _ H.out (hbw2.alloc (by omega) _) (heap_alloc_new W2 _) (Row.nil _ _ _) (by omega) (by simp [Value.ownBlock]) hl (by simp)).mono ?_
  rintro e W3 ⟨⟨v, rfl⟩, hs', hv', h4, hW3, hk3, -, hq⟩
  go_wp2
  go_ret
  exact ⟨rfl, hs', hv', h4, hW3, hk3, hq⟩

set_option maxRecDepth 20000 in
set_option maxHeartbeats 1600000 in
theorem free_frame_yes (bw : Nat) (ps hv : Value) (hs : List HoldD) (o : OpD) (w : World) (h : WInv w bw ps hv hs) (hf : o.Fits) (hk : o.kind = 1) (hl : hs.length + 4 ≤ 17592186044416) (hi : isItemB o.ik o.ikey o.ivalue o.itag = true) :
    Calls Tryz.prog 53 #[.pointer (some ⟨bw, 0, none⟩), .agg o.cells] w (StepPost bw ps hv hs w) := by
  have H : Hid (WInv w bw ps hv hs) := h
  have HB : Hid (∀ W, Below (w.heap.size + 1) (w.alloc (.cells o.cells 79)) W → ∀ j, W.cell? ⟨w.heap.size, j, none⟩ = o.cells[j]?) := fun W hW j => op_box hW (by omega) j
  clear h
  obtain ⟨kind, n, source, s, ik, ikey, itime, ivalue, itag, q0, q1, q2, q3⟩ := o
  obtain ⟨hfs, hfk, hft⟩ := hf
  simp only [OpD.cells] at *
  subst hk
  have hbl := itemBody_len (time := itime) hi
  have hfl : (frameBytes ik ikey itime ivalue itag).length ≤ 33 ∧ frameBytes ik ikey itime ivalue itag ≠ [] := by
    unfold frameBytes; simp [low_length]; omega
  go_enter Tryz.func53, Tryz.ntmps53
  go_wp2_with fail
  refine (frame_yes ik ikey itime ivalue itag _ hfk hi hft).mono ?_
  rintro e W1 ⟨v1, rfl, hr1, hg1, hb1⟩
  have hb1 : Below (w.heap.size + 1) (w.alloc (.cells #[.int .i64 1, .int .i64 n, .int .i64 source, .string s, .int .i64 ik, .string ikey, .int .i64 itime, .int .i64 ivalue, .int .u32 (itag : Int), .int .i64 q0, .int .i64 q1, .int .i64 q2, .int .i64 q3] 79)) W1 := hb1.mono (by simp)
  have hc := HB.out W1 hb1
  have p4 := hc 4
  have p5 := hc 5
  have p6 := hc 6
  have p7 := hc 7
  have p8 := hc 8
  simp only [List.getElem?_toArray, List.getElem?_cons_zero, List.getElem?_cons_succ] at p4 p5 p6 p7 p8
  clear hc
  go_wp2_with fail
  refine (rframe_yes ik ikey itime ivalue itag _ hfk hi hft).mono ?_
  rintro e W2 ⟨rfl, hb2⟩
  have hs1 := hb1.size
  have hs2 := hb2.size
  simp only [World.size_alloc] at hs1 hg1
  have hbw2 : Below w.heap.size w W2 := (((Below.refl _ w).alloc (Nat.le_refl _) _).trans (hb1.mono (by omega))).trans (hb2.mono (by omega))
  have hr2 := hr1.below hb2 (fun k hk => (hr1.blk_lt hk).1)
  clear p4 p5 p6 p7 p8 hb1 hb2 hr1
  generalize frameBytes ik ikey itime ivalue itag = fb at *
  obtain ⟨hfl1, hfl2⟩ := hfl
  obtain ⟨g, off, cap, rfl, hcv⟩ := conv_row hr2 hfl2
  have hg1 := hg1 g rfl
  go_wp2_with fail
  refine (keep_step bw W2.heap.size ps hv (.slice (some ⟨g, off, none⟩) fb.length cap) hs (fb.map byteV) w _ H.out (hbw2.alloc (by omega) _) (heap_alloc_new W2 _) (hr2.alloc _) (by omega) (by intro k hk; simp [Value.ownBlock] at hk; omega) hl (by rw [List.length_map]; omega)).mono ?_
  rintro e W3 ⟨⟨v, rfl⟩, hs', hv', h4, hW3, hk3, -, hq⟩
  go_wp2
  go_ret
  exact ⟨rfl, hs', hv', h4, hW3, hk3, hq⟩

end Go.Proofs.YtcfngdnmpogaoaaGreat
