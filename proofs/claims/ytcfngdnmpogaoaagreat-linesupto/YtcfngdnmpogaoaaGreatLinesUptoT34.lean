import Derived.Test.YtcfngdnmpogaoaaGreatLinesUptoT15
import Derived.Test.YtcfngdnmpogaoaaGreatLinesUptoT33
import Derived.Test.YtcfngdnmpogaoaaGreatLinesUptoT16
import Derived.Test.YtcfngdnmpogaoaaGreatLinesUptoT06

namespace Go.Proofs.YtcfngdnmpogaoaaGreat
open Go.RowKit

set_option maxRecDepth 20000 in
set_option maxHeartbeats 1600000 in
theorem still_any (b off cap : Nat) (s : ByteArray) (n : Nat) (w : World) (_hs : s.size ≤ n) (hn : n ≤ 9223372036854775807) (h1 : ∀ j (h : j < s.size), w.cell? ⟨b, off + j, none⟩ = some (.int .u8 (s[j].toNat : Int))) (h2 : ∀ j, s.size ≤ j → j < n → w.cell? ⟨b, off + j, none⟩ = some (.int .u8 201)) :
    Calls Tryz.prog 58 #[.slice (some ⟨b, off, none⟩) n cap, .string s] w fun e w' => e = .returned (.bool true) ∧ ∃ m, w' = w.drewN m := by
  have H1 : Hid (∀ j (h : j < s.size), w.cell? ⟨b, off + j, none⟩ = some (.int .u8 (s[j].toNat : Int))) := h1
  have H2 : Hid (∀ j, s.size ≤ j → j < n → w.cell? ⟨b, off + j, none⟩ = some (.int .u8 201)) := h2
  clear h1 h2
  go_enter Tryz.func58, Tryz.ntmps58
  go_wp2
  go_loopw [5] (fun i wr => ∃ k : Nat, k ≤ n ∧ i = .int .i64 (k : Int) ∧ ∃ m, wr = w.drewN m) (fun i _ => n - (intOf i).toNat)
  case atStart => exact ⟨0, Nat.zero_le _, rfl, 0, rfl⟩
  case round =>
    obtain ⟨k, hk, rfl, m, rfl⟩ := hrel
    by_cases hkn : k < n
    · by_cases hks : k < s.size
      · have hcell := H1.out k hks
        have hdk : decide (s.size ≤ k) = false := decide_eq_false (by omega)
        go_wp2
        go_quiet (fail)
        go_wp2
        go_roundw
        case rel => exact ⟨k + 1, by omega, by go_num, m + nq, by simp⟩
        case measure => simp [intOf]; omega
      · have hcell := H2.out k (by omega) hkn
        have hdk2 : decide (s.size ≤ k) = true := decide_eq_true (by omega)
        have hkI : (s.size : Int) ≤ (k : Int) := by omega
        have hdk : decide (k < s.size) = false := decide_eq_false (by omega)
        go_wp2
        go_quiet (fail)
        go_wp2
        go_roundw
        case rel => exact ⟨k + 1, by omega, by go_num, m + nq, by simp⟩
        case measure => simp [intOf]; omega
    · go_wp2
      go_ret
      exact ⟨rfl, m, rfl⟩

end Go.Proofs.YtcfngdnmpogaoaaGreat

namespace Go.Proofs.YtcfngdnmpogaoaaGreat
open Go.RowKit

/-- A step of a script, as its cells. -/
structure OpD where
  kind : Int
  n : Int
  source : Int
  s : ByteArray
  ik : Int
  ikey : ByteArray
  itime : Int
  ivalue : Int
  itag : Nat
  c0 : Int
  c1 : Int
  c2 : Int
  c3 : Int

def OpD.cells (o : OpD) : Array Value := #[.int .i64 o.kind, .int .i64 o.n, .int .i64 o.source, .string o.s, .int .i64 o.ik, .string o.ikey, .int .i64 o.itime, .int .i64 o.ivalue, .int .u32 (o.itag : Int), .int .i64 o.c0, .int .i64 o.c1, .int .i64 o.c2, .int .i64 o.c3]

/-- What a script's step may be in size. -/
structure OpD.Fits (o : OpD) : Prop where
  s : o.s.size + 11 ≤ 140737488355328
  key : o.ikey.size ≤ 9223372036854775807
  tag : o.itag < 4294967296

theorem rframe_yes (kind : Int) (key : ByteArray) (time value : Int) (tag : Nat) (w : World) (hk : key.size ≤ 9223372036854775807) (h : isItemB kind key value tag = true) (ht : tag < 4294967296) :
    Calls Tryz.prog 31 #[.agg #[.int .i64 kind, .string key, .int .i64 time, .int .i64 value, .int .u32 (tag : Int)]] w fun e w' =>
      e = .returned (.tuple #[.string (str (frameBytes kind key time value tag)), .int .i64 0]) ∧ Below w.heap.size w w' := by
  rcases isItemB_cases h with ⟨rfl, _⟩ | ⟨rfl, h1, h8⟩
  · exact rframe_mark key time value tag w hk h ht
  · exact rframe_event key time value tag w h1 h8 h ht

theorem WInv.bound {w : World} {bw : Nat} {ps hv : Value} {hs : List HoldD} (h : WInv w bw ps hv hs) : ∀ d ∈ hs, d.hb < w.heap.size ∧ (∀ k, d.vb.ownBlock = some k → k < w.heap.size) ∧ (∀ k, d.vt.ownBlock = some k → k < w.heap.size) ∧ (∀ k, d.vw.ownBlock = some k → k < w.heap.size) := fun d hd =>
  ⟨(Array.getElem?_eq_some_iff.1 (h.holds d hd).blk).1, fun _ hk => ((h.holds d hd).rb.blk_lt hk).1, fun _ hk => ((h.holds d hd).rt.blk_lt hk).1, fun _ hk => ((h.holds d hd).rw_.blk_lt hk).1⟩

/-- What a step leaves. -/
def StepPost (bw : Nat) (ps hv : Value) (hs : List HoldD) (w : World) (e : Ending) (w' : World) : Prop :=
  e = .returned (.bool true) ∧ ∃ hs' hv', hs'.length = 4 ∧ WInv w' bw ps hv' (hs ++ hs') ∧ Kept (fun k => k = bw ∨ hv.ownBlock = some k) w w' ∧ (∀ k, hv'.ownBlock = some k → hv.ownBlock = some k ∨ w.heap.size ≤ k) ∧ ∀ d ∈ hs', HoldIn (fun k => w.heap.size ≤ k) d

theorem conv_nil (W : World) : (convert 30 9 (.slice none 0 0)).run Tryz.prog W = .ok (.string ⟨#[]⟩) W := by
  rw [run_convert_bytes_string (P := Tryz.prog) W 30 9 5 none 0 0 Tryz.underlying30 Tryz.underlying5 Tryz.underlying9]
  simp [Conv.bytesToString]
  rfl

theorem op_box {w W : World} {o : OpD} {B : Nat} (hb : Below B (w.alloc (.cells o.cells 79)) W) (hB : w.heap.size < B) (j : Nat) : W.cell? ⟨w.heap.size, j, none⟩ = o.cells[j]? := by
  rw [hb.cell (by exact hB), cell_of_row _ _ _ _ _ _ (heap_alloc_new w _)]

/-- 'keep' at the end of a step. -/
theorem keep_step (bw hb : Nat) (ps hv vb : Value) (hs : List HoldD) (xs : List Value) (w W : World) (h : WInv w bw ps hv hs) (hbl : Below w.heap.size w W)
    (hblk : W.heap[hb]? = some (.cells #[vb, .slice none 0 0, .slice none 0 0, .int .i64 0] 135 (0, 0))) (hrow : Row W 5 1 vb xs)
    (hBh : w.heap.size ≤ hb) (hBv : ∀ k, vb.ownBlock = some k → w.heap.size ≤ k) (hl1 : hs.length + 4 ≤ 17592186044416) (hl2 : xs.length + 3 ≤ 140737488355328) :
    Calls Tryz.prog 59 #[.pointer (some ⟨bw, 0, none⟩), .pointer (some ⟨hb, 0, none⟩)] W fun e w' => (∃ v, e = .returned v) ∧
      ∃ hs' hv', hs'.length = 4 ∧ WInv w' bw ps hv' (hs ++ hs') ∧ Kept (fun k => k = bw ∨ hv.ownBlock = some k) w w' ∧ Kept (fun k => k = bw ∨ hv.ownBlock = some k ∨ k = hb ∨ vb.ownBlock = some k) W w' ∧ (∀ k, hv'.ownBlock = some k → hv.ownBlock = some k ∨ w.heap.size ≤ k) ∧ ∀ d ∈ hs', HoldIn (fun k => w.heap.size ≤ k) d := by
  refine (hkeep_any bw hb ps hv vb hs xs w.heap.size W (h.below hbl) hblk hrow h.bound hBh hBv (fun k => w.heap.size ≤ k) hBh hBv (fun k hk => by have := hbl.size; omega) hl1 hl2).mono ?_
  rintro e w' ⟨hv', hs', hvn, h4, hW, hk, hq⟩
  refine ⟨hv', hs', hvn, h4, hW, (Kept.ofBelow hbl _).step hk ?_, hk, hq⟩
  intro i hi
  rintro (e | e | e | e)
  · exact .inl e
  · exact .inr e
  · omega
  · have := hBv i e; omega

set_option maxRecDepth 20000 in
set_option maxHeartbeats 1600000 in
theorem free_frame_no (bw : Nat) (ps hv : Value) (hs : List HoldD) (o : OpD) (w : World) (h : WInv w bw ps hv hs) (hf : o.Fits) (hk : o.kind = 1) (hl : hs.length + 4 ≤ 17592186044416) (hi : isItemB o.ik o.ikey o.ivalue o.itag = false) :
    Calls Tryz.prog 53 #[.pointer (some ⟨bw, 0, none⟩), .agg o.cells] w (StepPost bw ps hv hs w) := by
  have H : Hid (WInv w bw ps hv hs) := h
  have HB : Hid (∀ W, Below (w.heap.size + 1) (w.alloc (.cells o.cells 79)) W → ∀ j, W.cell? ⟨w.heap.size, j, none⟩ = o.cells[j]?) := fun W hW j => op_box hW (by omega) j
  clear h
  obtain ⟨kind, n, source, s, ik, ikey, itime, ivalue, itag, q0, q1, q2, q3⟩ := o
  obtain ⟨hfs, hfk, hft⟩ := hf
  simp only [OpD.cells] at *
  subst hk
  have hcn := conv_nil
  go_enter Tryz.func53, Tryz.ntmps53
  go_wp2_with fail
  refine (frame_no ik ikey itime ivalue itag _ hfk hi).mono ?_
  rintro e W1 ⟨rfl, hb1⟩
  have hb1 : Below (w.heap.size + 1) (w.alloc (.cells #[.int .i64 1, .int .i64 n, .int .i64 source, .string s, .int .i64 ik, .string ikey, .int .i64 itime, .int .i64 ivalue, .int .u32 (itag : Int), .int .i64 q0, .int .i64 q1, .int .i64 q2, .int .i64 q3] 79)) W1 := hb1.mono (by simp)
  have hc := HB.out W1 hb1
  have p4 := hc 4
  have p5 := hc 5
  have p6 := hc 6
  have p7 := hc 7
  have p8 := hc 8
  simp only [List.getElem?_toArray, List.getElem?_cons_zero, List.getElem?_cons_succ] at p4 p5 p6 p7 p8
  clear hc
  go_wp2_with fail
  refine (rframe_no ik ikey itime ivalue itag _ hfk hi).mono ?_
  rintro e W2 ⟨rfl, hb2⟩
  have hs1 := hb1.size
  have hs2 := hb2.size
  simp only [World.size_alloc] at hs1
  have hbw2 : Below w.heap.size w W2 := (((Below.refl _ w).alloc (Nat.le_refl _) _).trans (hb1.mono (by omega))).trans (hb2.mono (by omega))
  clear p4 p5 p6 p7 p8 hb1 hb2
  go_wp2_with fail
  refine (keep_step bw W2.heap.size ps hv (.slice none 0 0) hs [] w _ H.out (hbw2.alloc (by omega) _) (heap_alloc_new W2 _) (Row.nil _ _ _) (by omega) (by simp [Value.ownBlock]) hl (by simp)).mono ?_
  rintro e W3 ⟨⟨v, rfl⟩, hs', hv', h4, hW3, hk3, -, hq⟩
  go_wp2
  go_ret
  exact ⟨rfl, hs', hv', h4, hW3, hk3, hq⟩

set_option maxRecDepth 20000 in
set_option maxHeartbeats 1600000 in
theorem free_frame_yes (bw : Nat) (ps hv : Value) (hs : List HoldD) (o : OpD) (w : World) (h : WInv w bw ps hv hs) (hf : o.Fits) (hk : o.kind = 1) (hl : hs.length + 4 ≤ 17592186044416) (hi : isItemB o.ik o.ikey o.ivalue o.itag = true) :
    Calls Tryz.prog 53 #[.pointer (some ⟨bw, 0, none⟩), .agg o.cells] w (StepPost bw ps hv hs w) := by
  have H : Hid (WInv w bw ps hv hs) := h
  have HB : Hid (∀ W, Below (w.heap.size + 1) (w.alloc (.cells o.cells 79)) W → ∀ j, W.cell? ⟨w.heap.size, j, none⟩ = o.cells[j]?) := fun W hW j => op_box hW (by omega) j
  clear h
  obtain ⟨kind, n, source, s, ik, ikey, itime, ivalue, itag, q0, q1, q2, q3⟩ := o
  obtain ⟨hfs, hfk, hft⟩ := hf
  simp only [OpD.cells] at *
  subst hk
  have hbl := itemBody_len (time := itime) hi
  have hfl : (frameBytes ik ikey itime ivalue itag).length ≤ 33 ∧ frameBytes ik ikey itime ivalue itag ≠ [] := by
    unfold frameBytes; simp [low_length]; omega
  go_enter Tryz.func53, Tryz.ntmps53
  go_wp2_with fail
  refine (frame_yes ik ikey itime ivalue itag _ hfk hi hft).mono ?_
  rintro e W1 ⟨v1, rfl, hr1, hg1, hb1⟩
  have hb1 : Below (w.heap.size + 1) (w.alloc (.cells #[.int .i64 1, .int .i64 n, .int .i64 source, .string s, .int .i64 ik, .string ikey, .int .i64 itime, .int .i64 ivalue, .int .u32 (itag : Int), .int .i64 q0, .int .i64 q1, .int .i64 q2, .int .i64 q3] 79)) W1 := hb1.mono (by simp)
  have hc := HB.out W1 hb1
  have p4 := hc 4
  have p5 := hc 5
  have p6 := hc 6
  have p7 := hc 7
  have p8 := hc 8
  simp only [List.getElem?_toArray, List.getElem?_cons_zero, List.getElem?_cons_succ] at p4 p5 p6 p7 p8
  clear hc
  go_wp2_with fail
  refine (rframe_yes ik ikey itime ivalue itag _ hfk hi hft).mono ?_
  rintro e W2 ⟨rfl, hb2⟩
  have hs1 := hb1.size
  have hs2 := hb2.size
  simp only [World.size_alloc] at hs1 hg1
  have hbw2 : Below w.heap.size w W2 := (((Below.refl _ w).alloc (Nat.le_refl _) _).trans (hb1.mono (by omega))).trans (hb2.mono (by omega))
  have hr2 := hr1.below hb2 (fun k hk => (hr1.blk_lt hk).1)
  clear p4 p5 p6 p7 p8 hb1 hb2 hr1
  generalize frameBytes ik ikey itime ivalue itag = fb at *
  obtain ⟨hfl1, hfl2⟩ := hfl
  obtain ⟨g, off, cap, rfl, hcv⟩ := conv_row hr2 hfl2
  have hg1 := hg1 g rfl
  go_wp2_with fail
  refine (keep_step bw W2.heap.size ps hv (.slice (some ⟨g, off, none⟩) fb.length cap) hs (fb.map byteV) w _ H.out (hbw2.alloc (by omega) _) (heap_alloc_new W2 _) (hr2.alloc _) (by omega) (by intro k hk; simp [Value.ownBlock] at hk; omega) hl (by rw [List.length_map]; omega)).mono ?_
  rintro e W3 ⟨⟨v, rfl⟩, hs', hv', h4, hW3, hk3, -, hq⟩
  go_wp2
  go_ret
  exact ⟨rfl, hs', hv', h4, hW3, hk3, hq⟩

end Go.Proofs.YtcfngdnmpogaoaaGreat

namespace Go.Proofs.YtcfngdnmpogaoaaGreat
open Go.RowKit

theorem unframe_n (b off cap n : Nat) (l : List UInt8) (w : World) (hn : n = l.length) (hc : Bytes w b off l) (hl : l.length ≤ 9223372036854775807) (hcap : l.length ≤ cap) :
    Calls Tryz.prog 16 #[.slice (some ⟨b, off, none⟩) n cap] w fun e w' => e = .returned (.tuple #[unfV l, .int .i64 (unfN l), .int .i64 (unfE l)]) ∧ Below w.heap.size w w' := by
  subst hn; exact unframe_any b off cap l w hc hl hcap

theorem lent_take (s : ByteArray) : (lentBytes s).take s.size = s.data.toList := by
  rw [lentBytes, List.take_append_of_le_length (by rw [keyLen]; exact Nat.le_refl _), List.take_of_length_le (by rw [keyLen]; exact Nat.le_refl _)]
theorem lent_len (s : ByteArray) : (lentBytes s).length = s.size + 8 := by rw [lentBytes, List.length_append, keyLen]; simp
theorem lent_get1 (s : ByteArray) (j : Nat) (h : j < s.size) (h' : j < (lentBytes s).length) : (lentBytes s)[j] = s[j] := by
  simp only [lentBytes]
  rw [List.getElem_append_left (by rw [keyLen]; exact h)]; rfl
theorem lent_get2 (s : ByteArray) (j : Nat) (h : s.size ≤ j) (h' : j < (lentBytes s).length) : (lentBytes s)[j] = 201 := by
  simp only [lentBytes]
  rw [List.getElem_append_right (by rw [keyLen]; exact h), List.getElem_replicate]

theorem still_lent (g cap : Nat) (s : ByteArray) (w : World) (hs : s.size + 8 ≤ 140737488355328) (h : Bytes w g 0 (lentBytes s)) :
    Calls Tryz.prog 58 #[.slice (some ⟨g, 0, none⟩) (s.size + 8) cap, .string s] w fun e w' => e = .returned (.bool true) ∧ ∃ m, w' = w.drewN m := by
  refine still_any g 0 cap s (s.size + 8) w (by omega) (by omega) (fun j hj => ?_) (fun j hj hj2 => ?_)
  · rw [h j (by rw [lent_len]; omega), lent_get1 s j hj]
  · rw [h j (by rw [lent_len]; omega), lent_get2 s j hj]; rfl

/-- The cells of a box of an item, in whatever later world. -/
theorem item_cells {W : World} {x0 x1 x2 x3 x4 : Value} {t : TypeId} {g : Nat} (h : W.heap[g]? = some (.cells #[x0, x1, x2, x3, x4] t (0, 0))) :
    W.cell? ⟨g, 0, none⟩ = some x0 ∧ W.cell? ⟨g, 1, none⟩ = some x1 ∧ W.cell? ⟨g, 2, none⟩ = some x2 ∧ W.cell? ⟨g, 3, none⟩ = some x3 ∧ W.cell? ⟨g, 4, none⟩ = some x4 := by
  refine ⟨?_, ?_, ?_, ?_, ?_⟩ <;> (rw [cell_of_row W _ _ _ _ _ h]; rfl)

set_option maxRecDepth 20000 in
set_option maxHeartbeats 3200000 in
theorem free_unframe (bw : Nat) (ps hv : Value) (hs : List HoldD) (o : OpD) (w : World) (h : WInv w bw ps hv hs) (hf : o.Fits) (hk : o.kind = 2) (hl : hs.length + 4 ≤ 17592186044416) :
    Calls Tryz.prog 53 #[.pointer (some ⟨bw, 0, none⟩), .agg o.cells] w (StepPost bw ps hv hs w) := by
  have H : Hid (WInv w bw ps hv hs) := h
  have HB : Hid (∀ W, Below (w.heap.size + 1) (w.alloc (.cells o.cells 79)) W → ∀ j, W.cell? ⟨w.heap.size, j, none⟩ = o.cells[j]?) := fun W hW j => op_box hW (by omega) j
  clear h
  obtain ⟨kind, n, source, s, ik, ikey, itime, ivalue, itag, q0, q1, q2, q3⟩ := o
  obtain ⟨hfs, hfk, hft⟩ := hf
  simp only [OpD.cells] at *
  subst hk
  go_enter Tryz.func53, Tryz.ntmps53
  go_wp2_with fail
  refine (lent_any s _ (by omega)).mono ?_
  rintro e W1 ⟨g, rfl, hg1, hr1, hb1⟩
  simp only [World.size_alloc] at hg1 hb1
  have p3 := HB.out W1 hb1 3
  simp only [List.getElem?_toArray, List.getElem?_cons_zero, List.getElem?_cons_succ] at p3
  go_wp2_with fail
  have hby := hr1.bytes.1
  have hby1 : Bytes W1 g 0 s.data.toList := by have := hby.take s.size; rw [lent_take] at this; exact this
  refine (unframe_n g 0 (s.size + 8) s.size s.data.toList W1 (keyLen s).symm hby1 (by rw [keyLen]; omega) (by rw [keyLen]; omega)).mono ?_
  rintro e W2 ⟨rfl, hb2⟩
  obtain ⟨x1, x2, x3, x4, x5, hV⟩ := unfV_cells s.data.toList
  have HV : Hid (unfV s.data.toList = .agg #[.int .i64 x1, .string x2, .int .i64 x3, .int .i64 x4, .int .u32 x5]) := hV
  rw [hV]
  clear hV
  obtain ⟨UN, HN⟩ : ∃ U, Hid (unfN s.data.toList = U) := ⟨_, rfl⟩
  obtain ⟨UE, HE⟩ : ∃ U, Hid (unfE s.data.toList = U) := ⟨_, rfl⟩
  rw [HN.out, HE.out]
  have hs1 := hb1.size
  have hs2 := hb2.size
  have hs0 : (w.alloc (.cells #[.int .i64 2, .int .i64 n, .int .i64 source, .string s, .int .i64 ik, .string ikey, .int .i64 itime, .int .i64 ivalue, .int .u32 (itag : Int), .int .i64 q0, .int .i64 q1, .int .i64 q2, .int .i64 q3] 79)).heap.size = w.heap.size + 1 := by simp
  rw [hs0] at hs1
  have hgW1 := (hr1.blk_lt (k := g) rfl).1
  have hb12 := hb1.trans (hb2.mono (by omega))
  have hr2 := hr1.below hb2 (fun k hk => (hr1.blk_lt hk).1)
  have p3' : ∀ o : Obj, (W2.alloc o).cell? ⟨w.heap.size, 3, none⟩ = some (.string s) := fun o => by
    have := HB.out (W2.alloc o) (hb12.alloc (by omega) o) 3
    simpa using this
  clear p3 hby hby1
  go_wp2_with fail
  refine (runframe_any s _ (by omega)).mono ?_
  rintro e W3 ⟨rfl, hb3⟩
  rw [HV.out, HN.out, HE.out]
  have hs3 := hb3.size
  simp only [World.size_alloc] at hs3
  have hb13 := (hb12.alloc (by omega) _).trans (hb3.mono (by simp; omega))
  have hbx := (hb3.block W2.heap.size (by simp)).trans (heap_alloc_new W2 _)
  have hr3 := (hr2.alloc _).below hb3 (fun k hk => ((hr2.alloc _).blk_lt hk).1)
  have p3'' : ∀ o : Obj, (W3.alloc o).cell? ⟨w.heap.size, 3, none⟩ = some (.string s) := fun o => by
    have := HB.out (W3.alloc o) (hb13.alloc (by omega) o) 3
    simpa using this
  clear p3' hb3 hb12 hb2
  go_wp2_with fail
  refine (still_lent g (s.size + 8) s _ (by omega) ((hr3.alloc _).bytes.1)).mono ?_
  rintro e W4 ⟨rfl, m4, rfl⟩
  have hk4 : Kept (fun _ => False) W3 ((W3.alloc (.cells #[.int .i64 x1, .string x2, .int .i64 x3, .int .i64 x4, .int .u32 x5] 28)).drewN m4) := ((Kept.refl _ W3).alloc _).drewN m4
  have hby4 : ((W3.alloc (.cells #[.int .i64 x1, .string x2, .int .i64 x3, .int .i64 x4, .int .u32 x5] 28)).drewN m4).heap[W3.heap.size]? = some (.cells #[.int .i64 x1, .string x2, .int .i64 x3, .int .i64 x4, .int .u32 x5] 28 (0, 0)) := by
    rw [(below_drewN (Below.refl (W3.heap.size + 1) (W3.alloc (.cells #[.int .i64 x1, .string x2, .int .i64 x3, .int .i64 x4, .int .u32 x5] 28))) m4).block _ (by omega)]
    exact heap_alloc_new W3 _
  have hsz4 : ((W3.alloc (.cells #[.int .i64 x1, .string x2, .int .i64 x3, .int .i64 x4, .int .u32 x5] 28)).drewN m4).heap.size = W3.heap.size + 1 := by simp
  generalize (W3.alloc (.cells #[.int .i64 x1, .string x2, .int .i64 x3, .int .i64 x4, .int .u32 x5] 28)).drewN m4 = W4 at *
  have hbx4 := (hk4.block W2.heap.size (by omega) id).trans hbx
  have hr4 := hr3.kept hk4 (fun _ _ => id)
  have hbw3 : Below w.heap.size w W3 := ((Below.refl _ w).alloc (Nat.le_refl _) _).trans (hb13.mono (by omega))
  have hbw4 : Below w.heap.size w W4 := hbw3.trans (hk4.toBelow (by omega) (fun _ _ => id))
  have Hsz4 : Hid (W4.heap.size = W3.heap.size + 1) := hsz4
  clear p3'' hb13 hbx hr3 hr2 hbw3 hb1 HB hsz4
  have hsz4a : W3.heap.size < W4.heap.size := by rw [Hsz4.out]; omega
  go_wp2_with fail
  refine (keep_step bw W4.heap.size ps hv (.slice (some ⟨g, 0, none⟩) (s.size + 8) (s.size + 8)) hs ((lentBytes s).map byteV) w _ H.out (hbw4.alloc (by omega) _) (heap_alloc_new W4 _) (hr4.alloc _) (by omega) (by intro k hk; simp [Value.ownBlock] at hk; omega) hl (by rw [List.length_map, lent_len]; omega)).mono ?_
  rintro e W5 ⟨⟨v, rfl⟩, hs', hv', h4, hW5, hk5, hk5', hq5⟩
  have hinv4 := (H.out.below hbw4)
  have hx5 : W5.heap[W2.heap.size]? = some (.cells #[.int .i64 x1, .string x2, .int .i64 x3, .int .i64 x4, .int .u32 x5] 28 (0, 0)) := by
    rw [hk5'.block W2.heap.size (by simp; omega) ?_, Below.heap_alloc _ _ _ (by omega)]
    · exact hbx4
    · rintro (e | e | e | e)
      · have := hinv4.blk; rw [← e, hbx4] at this; simp at this
      · exact hinv4.row.ne_block hbx4 (by decide) e
      · omega
      · exact hr4.ne_block hbx4 (by decide) e
  have hy5 : W5.heap[W3.heap.size]? = some (.cells #[.int .i64 x1, .string x2, .int .i64 x3, .int .i64 x4, .int .u32 x5] 28 (0, 0)) := by
    rw [hk5'.block W3.heap.size (by simp; omega) ?_, Below.heap_alloc _ _ _ (by omega)]
    · exact hby4
    · rintro (e | e | e | e)
      · have := hinv4.blk; rw [← e, hby4] at this; simp at this
      · exact hinv4.row.ne_block hby4 (by decide) e
      · omega
      · exact hr4.ne_block hby4 (by decide) e
  obtain ⟨a0, a1, a2, a3, a4⟩ := item_cells hx5
  obtain ⟨b0, b1, b2, b3, b4⟩ := item_cells hy5
  clear hx5 hy5 hk5' hinv4 hby4 hbx4 hr4
  go_wp2
  go_ret
  exact ⟨rfl, hs', hv', h4, hW5, hk5, hq5⟩

end Go.Proofs.YtcfngdnmpogaoaaGreat

namespace Go.Proofs.YtcfngdnmpogaoaaGreat
open Go.RowKit

theorem free_any (bw : Nat) (ps hv : Value) (hs : List HoldD) (o : OpD) (w : World) (h : WInv w bw ps hv hs) (hf : o.Fits) (hk : o.kind = 1 ∨ o.kind = 2) (hl : hs.length + 4 ≤ 17592186044416) :
    Calls Tryz.prog 53 #[.pointer (some ⟨bw, 0, none⟩), .agg o.cells] w (StepPost bw ps hv hs w) := by
  rcases hk with hk | hk
  · cases hi : isItemB o.ik o.ikey o.ivalue o.itag with
    | false => exact free_frame_no bw ps hv hs o w h hf hk hl hi
    | true => exact free_frame_yes bw ps hv hs o w h hf hk hl hi
  · exact free_unframe bw ps hv hs o w h hf hk hl

set_option maxRecDepth 20000 in
set_option maxHeartbeats 1600000 in
theorem step_any (bw : Nat) (ps hv : Value) (hs : List HoldD) (o : OpD) (w : World) (h : WInv w bw ps hv hs) (hf : o.Fits) (hk : o.kind = 1 ∨ o.kind = 2) (hl : hs.length + 4 ≤ 17592186044416) :
    Calls Tryz.prog 32 #[.pointer (some ⟨bw, 0, none⟩), .agg o.cells] w (StepPost bw ps hv hs w) := by
  have H : Hid (WInv w bw ps hv hs) := h
  have hk1 : (1 : Int) ≤ o.kind := by omega
  have hk3 : o.kind ≤ 3 := by omega
  have HF : Hid (∀ W, WInv W bw ps hv hs → Calls Tryz.prog 53 #[.pointer (some ⟨bw, 0, none⟩), .agg o.cells] W (StepPost bw ps hv hs W)) := fun W hW => free_any bw ps hv hs o W hW hf hk hl
  clear h hf hk
  obtain ⟨kind, n, source, s, ik, ikey, itime, ivalue, itag, q0, q1, q2, q3⟩ := o
  simp only [OpD.cells] at *
  go_enter Tryz.func32, Tryz.ntmps32
  go_wp2_with fail
  refine (HF.out _ (H.out.below ((Below.refl _ w).alloc (Nat.le_refl _) _))).mono ?_
  rintro e W ⟨rfl, hs', hv', h4, hW, hkW, hq⟩
  go_wp2
  go_ret
  refine ⟨rfl, hs', hv', h4, hW, ((Kept.refl _ w).alloc _).step hkW (fun i _ e => e), fun k hk => (hq.1 k hk).imp id (fun h => by simp at h; omega), fun d hd => ?_⟩
  obtain ⟨x1, x2, x3, x4⟩ := hq.2 d hd
  simp only [World.size_alloc] at x1 x2 x3 x4
  exact ⟨by omega, fun k hk => by have := x2 k hk; omega, fun k hk => by have := x3 k hk; omega, fun k hk => by have := x4 k hk; omega⟩

/-- A script in memory: n steps, 13 cells each. -/
def Script (w : World) (b off : Nat) (ops : List OpD) : Prop := ∀ i (h : i < ops.length) j, j < 13 → w.cell? ⟨b, off + (i * 13 + j), none⟩ = (ops[i]).cells[j]?

theorem Script.kept {X : Nat → Prop} {w W : World} {b off : Nat} {ops : List OpD} (h : Script w b off ops) (hk : Kept X w W) (hb : b < w.heap.size) (hx : ¬ X b) : Script W b off ops := fun i hi j hj => by
  have := World.cell?_of_block (w := w) (w' := W) (a := ⟨b, off + (i * 13 + j), none⟩) (hk.block b hb hx)
  rw [this]; exact h i hi j hj

set_option maxRecDepth 20000 in
set_option maxHeartbeats 1600000 in
theorem upTo_frames (b off cap : Nat) (ops : List OpD) (w : World) (hsc : Script w b off ops) (hb : b < w.heap.size) (hf : ∀ o ∈ ops, o.Fits) (hl : ops.length ≤ 1172812402961) :
    Calls Tryz.prog 13 #[.slice (some ⟨b, off, none⟩) ops.length cap, .int .i64 1, .int .i64 2] w fun e w' => e = .returned (.int .i64 (-1)) ∧ Below w.heap.size w w' := by
  have Hsc : Hid (Script w b off ops) := hsc
  have Hf : Hid (∀ o ∈ ops, o.Fits) := hf
  clear hsc hf
  go_enter Tryz.func13, Tryz.ntmps13
  go_wp2
  go_loopw [8] (fun i wr => ∃ (k : Nat) (hs : List HoldD) (hv : Value), k ≤ ops.length ∧ i = .int .i64 (k : Int) ∧ hs.length ≤ 4 * k ∧ WInv wr w.heap.size (.slice none 0 0) hv hs ∧ (∀ j, hv.ownBlock = some j → w.heap.size ≤ j) ∧ Below w.heap.size w wr) (fun i _ => ops.length - (intOf i).toNat)
  case atStart => exact ⟨0, [], .slice none 0 0, Nat.zero_le _, rfl, by simp, ⟨heap_alloc_new w _, Row.nil _ _ _, by simp⟩, by simp [Value.ownBlock], (Below.refl _ w).alloc (Nat.le_refl _) _⟩
  case round =>
    obtain ⟨k, hs, hv, hk, rfl, hsl, hinv, hhv, hbw⟩ := hrel
    have Hinv : Hid (WInv wr w.heap.size (.slice none 0 0) hv hs) := hinv
    have Hhv : Hid (∀ j, hv.ownBlock = some j → w.heap.size ≤ j) := hhv
    have Hbw : Hid (Below w.heap.size w wr) := hbw
    clear hinv hhv hbw
    by_cases hkn : k < ops.length
    · have hcell : ∀ j, j < 13 → wr.cell? ⟨b, off + (k * 13 + j), none⟩ = (ops[k]).cells[j]? := fun j hj => by
        rw [Hbw.out.cell (by exact hb)]; exact Hsc.out k hkn j hj
      have hof := Hf.out ops[k] (List.getElem_mem hkn)
      generalize ops[k] = o at *
      have Hcell : Hid (∀ j, j < 13 → wr.cell? ⟨b, off + (k * 13 + j), none⟩ = o.cells[j]?) := hcell
      have h0 := hcell 0 (by omega)
      have h1 := hcell 1 (by omega)
      have h2 := hcell 2 (by omega)
      have h3 := hcell 3 (by omega)
      have h4 := hcell 4 (by omega)
      have h5 := hcell 5 (by omega)
      have h6 := hcell 6 (by omega)
      have h7 := hcell 7 (by omega)
      have h8 := hcell 8 (by omega)
      have h9 := hcell 9 (by omega)
      have h10 := hcell 10 (by omega)
      have h11 := hcell 11 (by omega)
      have h12 := hcell 12 (by omega)
      have HS : Hid (o.kind = 1 ∨ o.kind = 2 → Calls Tryz.prog 32 #[.pointer (some ⟨w.heap.size, 0, none⟩), .agg o.cells] wr (StepPost w.heap.size (.slice none 0 0) hv hs wr)) := fun hko => step_any _ _ _ _ o wr Hinv.out hof hko (by omega)
      clear hcell Hcell hof
      obtain ⟨kind, n, source, s, ik, ikey, itime, ivalue, itag, q0, q1, q2, q3⟩ := o
      simp only [OpD.cells, List.getElem?_toArray, List.getElem?_cons_zero, List.getElem?_cons_succ, Nat.add_zero, ← Nat.add_assoc] at h0 h1 h2 h3 h4 h5 h6 h7 h8 h9 h10 h11 h12 HS
      by_cases hk1 : kind < 1
      · clear h1 h2 h3 h4 h5 h6 h7 h8 h9 h10 h11 h12
        go_wp2
        go_roundw
        case rel => exact ⟨k + 1, hs, hv, by omega, by go_num, by omega, Hinv.out, Hhv.out, Hbw.out⟩
        case measure => simp [intOf]; omega
      · by_cases hk2 : 2 < kind
        · clear h1 h2 h3 h4 h5 h6 h7 h8 h9 h10 h11 h12
          go_wp2
          go_roundw
          case rel => exact ⟨k + 1, hs, hv, by omega, by go_num, by omega, Hinv.out, Hhv.out, Hbw.out⟩
          case measure => simp [intOf]; omega
        · have hko : Hid (kind = 1 ∨ kind = 2) := by show _ ∨ _; omega
          go_wp2_with fail
          refine (HS.out hko.out).mono ?_
          rintro e W ⟨rfl, hs', hv', h4', hW, hkW, hq⟩
          clear h0 h1 h2 h3 h4 h5 h6 h7 h8 h9 h10 h11 h12
          have hbW : Below w.heap.size w W := Hbw.out.trans (hkW.toBelow (by have := Hbw.out.size; omega) (fun j hj => by rintro (e | e); omega; (have := Hhv.out j e; omega)))
          have hsz := Hbw.out.size
          have HbW : Hid (Below w.heap.size w W) := hbW
          have HW : Hid (WInv W w.heap.size (.slice none 0 0) hv' (hs ++ hs')) := hW
          have Hq : Hid (∀ k, hv'.ownBlock = some k → w.heap.size ≤ k) := fun k hk => by
            rcases hq.1 k hk with e | e
            · exact Hhv.out k e
            · omega
          clear hbW hW hq hkW
          go_wp2_with fail
          refine (looks_any w.heap.size _ hv' (hs ++ hs') W HW.out (by rw [List.length_append]; omega)).mono ?_
          rintro e W2 ⟨rfl, hb2⟩
          have Hb2 : Hid (Below W.heap.size W W2) := hb2
          clear hb2
          go_wp2
          go_roundw
          case rel => exact ⟨k + 1, hs ++ hs', hv', by omega, by go_num, by rw [List.length_append]; omega, HW.out.below Hb2.out, Hq.out, HbW.out.trans (Hb2.out.mono (HbW.out.size))⟩
          case measure => simp [intOf]; omega
    · go_wp2
      go_ret
      exact ⟨rfl, Hbw.out⟩

end Go.Proofs.YtcfngdnmpogaoaaGreat

/-
  The world of a script with flows: who owns what.
-/
namespace Go.Proofs.YtcfngdnmpogaoaaGreat
open Go.RowKit

/-- The blocks of an owner: 0 the script's, 2i+1 the code's flow i, 2i+2 the reference's. -/
def Own (own : Nat → Nat) (w : World) (a k : Nat) : Prop := own k = a ∧ k < w.heap.size
def growO (own : Nat → Nat) (w : World) (a k : Nat) : Nat := if k < w.heap.size then own k else a
theorem growO_old {own : Nat → Nat} {w : World} {a k : Nat} (h : k < w.heap.size) : growO own w a k = own k := if_pos h
theorem growO_new {own : Nat → Nat} {w : World} {a k : Nat} (h : w.heap.size ≤ k) : growO own w a k = a := if_neg (by omega)

theorem FlowOn.lt {w : World} {g : Nat} {c : Cf} {sp : Sp} {rs : List (List UInt8)} {F : Nat → Prop} {T : Option Int} (h : FlowOn w g c sp rs F T) : FlowOn w g c sp rs (fun k => F k ∧ k < w.heap.size) T := by
  obtain ⟨us, ⟨st, ⟨r, gs, es, h3, a1, a2, a3, h5⟩, h6⟩, h2⟩ := h
  exact ⟨us, ⟨st, ⟨r, gs, es, h3, a1, a2, a3, fun k hk => ⟨h5 k hk, h3.lt hk⟩⟩, h6⟩, h2.ul, h2.rl, fun i v l hu hr => ⟨(h2.row i v l hu hr).1, fun k hk => ⟨(h2.row i v l hu hr).2.1 k hk, ((h2.row i v l hu hr).1.blk_lt hk).1⟩, (h2.row i v l hu hr).2.2⟩⟩
theorem FlowOn.grow {own : Nat → Nat} {w w' : World} {a g : Nat} {c : Cf} {sp : Sp} {rs : List (List UInt8)} {T : Option Int} (h : FlowOn w' g c sp rs (Grown (Own own w a) w) T) : FlowOn w' g c sp rs (Own (growO own w a) w' a) T :=
  h.lt.mono (fun k hk => by
    obtain ⟨hk, hl⟩ := hk
    rcases hk with hk | hk
    · exact ⟨(growO_old hk.2).trans hk.1, hl⟩
    · exact ⟨growO_new hk, hl⟩)
theorem FlowOn.other {own own' : Nat → Nat} {w w' : World} {a g : Nat} {c : Cf} {sp : Sp} {rs : List (List UInt8)} {T : Option Int} {X : Nat → Prop} (h : FlowOn w g c sp rs (Own own w a) T) (hk : Kept X w w') (hX : ∀ k, k < w.heap.size → X k → own k ≠ a) (ho : ∀ k, k < w.heap.size → own' k = own k) : FlowOn w' g c sp rs (Own own' w' a) T :=
  (h.kept hk (fun k hk hx => hX k hk.2 hx hk.1)).mono (fun k hk' => ⟨(ho k hk'.2).trans hk'.1, Nat.lt_of_lt_of_le hk'.2 hk.size⟩)

theorem RefOn.lt {w : World} {g : Nat} {r : RCells} {E : List Ev} {ds : List WinX} {G : Nat → Prop} (h : RefOn w g r E ds G) : RefOn w g r E ds (fun k => G k ∧ k < w.heap.size) :=
  ⟨h.rev, h.done, ⟨h.me, h.rev.rf.lt⟩, fun k hk => ⟨h.ev k hk, (h.rev.ev.blk_lt hk).1⟩, fun k hk => ⟨h.dn k hk, (h.done.row.blk_lt hk).1⟩, fun x hx k hk => ⟨h.tg x hx k hk, ((h.done.tags x hx).1.blk_lt hk).1⟩⟩
theorem Ref.grow {own : Nat → Nat} {w w' : World} {a g : Nat} {c : Cf} {sp : Sp} {rs : List (List UInt8)} (h : Ref w' g c sp rs (Grown (Own own w a) w)) : Ref w' g c sp rs (Own (growO own w a) w' a) := by
  obtain ⟨r, ds, h1, h2⟩ := h
  refine ⟨r, ds, h1.lt.mono (fun k hk => ?_), h2⟩
  obtain ⟨hk, hl⟩ := hk
  rcases hk with hk | hk
  · exact ⟨(growO_old hk.2).trans hk.1, hl⟩
  · exact ⟨growO_new hk, hl⟩
theorem Ref.other {own own' : Nat → Nat} {w w' : World} {a g : Nat} {c : Cf} {sp : Sp} {rs : List (List UInt8)} {X : Nat → Prop} (h : Ref w g c sp rs (Own own w a)) (hk : Kept X w w') (hX : ∀ k, k < w.heap.size → X k → own k ≠ a) (ho : ∀ k, k < w.heap.size → own' k = own k) : Ref w' g c sp rs (Own own' w' a) := by
  obtain ⟨r, ds, h1, h2⟩ := h
  exact ⟨r, ds, (h1.kept hk (fun k hk hx => hX k hk.2 hx hk.1)).mono (fun k hk' => ⟨(ho k hk'.2).trans hk'.1, Nat.lt_of_lt_of_le hk'.2 hk.size⟩), h2⟩

/-- A player: its block, the two flows, and what each has come to. -/
structure PlD where
  pb : Nat
  f : Nat
  r : Nat
  c : Cf
  sp : Sp
  rs : List (List UInt8)
  sq : Sp
  rq : List (List UInt8)

structure PlayAt (own : Nat → Nat) (w : World) (i : Nat) (p : PlD) : Prop where
  blk : w.heap[p.pb]? = some (.cells #[.pointer (some ⟨p.f, 0, none⟩), .pointer (some ⟨p.r, 0, none⟩)] 128 (0, 0))
  mine : own p.pb = 0
  code : FlowOn w p.f p.c p.sp p.rs (Own own w (2 * i + 1)) none
  ref : Ref w p.r p.c p.sq p.rq (Own own w (2 * i + 2))
  conf : CfOk p.c

def plPtrs (pls : List PlD) : List Value := pls.map fun p => .pointer (some ⟨p.pb, 0, none⟩)
structure PInv (own : Nat → Nat) (w : World) (bw : Nat) (ps hv : Value) (hs : List HoldD) (pls : List PlD) : Prop where
  inv : WInv w bw ps hv hs
  prow : Row w 125 1 ps (plPtrs pls)
  obw : own bw = 0
  ohv : ∀ k, hv.ownBlock = some k → own k = 0
  ops : ∀ k, ps.ownBlock = some k → own k = 0
  oh : ∀ d ∈ hs, HoldIn (fun k => own k = 0) d
  pl : ∀ (i : Nat) p, pls[i]? = some p → PlayAt own w i p

theorem HoldIn.mono {N N' : Nat → Prop} {d : HoldD} {w : World} (h : HoldIn N d) (hd : Hold w d) (hN : ∀ k, k < w.heap.size → N k → N' k) : HoldIn N' d :=
  ⟨hN _ (Array.getElem?_eq_some_iff.1 hd.blk).1 h.1, fun k hk => hN k (hd.rb.blk_lt hk).1 (h.2.1 k hk), fun k hk => hN k (hd.rt.blk_lt hk).1 (h.2.2.1 k hk), fun k hk => hN k (hd.rw_.blk_lt hk).1 (h.2.2.2 k hk)⟩
theorem WInv.kept {X : Nat → Prop} {w W : World} {bw : Nat} {ps hv : Value} {hs : List HoldD} (h : WInv w bw ps hv hs) (hk : Kept X w W) (h0 : ¬ X bw) (h1 : ∀ k, hv.ownBlock = some k → ¬ X k) (h2 : ∀ d ∈ hs, HoldIn (fun k => ¬ X k) d) : WInv W bw ps hv hs :=
  ⟨(hk.block bw (Array.getElem?_eq_some_iff.1 h.blk).1 h0).trans h.blk, h.row.kept hk h1, fun d hd => (h.holds d hd).kept hk (h2 d hd).1 (h2 d hd).2.1 (h2 d hd).2.2.1 (h2 d hd).2.2.2⟩

/-- The script's own part behind a step of another's. -/
theorem PInv.side {own own' : Nat → Nat} {w w' : World} {bw : Nat} {ps hv : Value} {hs : List HoldD} {pls : List PlD} {X : Nat → Prop} (h : PInv own w bw ps hv hs pls) (hk : Kept X w w') (hX : ∀ k, k < w.heap.size → X k → own k ≠ 0) (ho : ∀ k, k < w.heap.size → own' k = own k) :
    WInv w' bw ps hv hs ∧ Row w' 125 1 ps (plPtrs pls) ∧ own' bw = 0 ∧ (∀ k, hv.ownBlock = some k → own' k = 0) ∧ (∀ k, ps.ownBlock = some k → own' k = 0) ∧ ∀ d ∈ hs, HoldIn (fun k => own' k = 0) d := by
  have hbw : bw < w.heap.size := (Array.getElem?_eq_some_iff.1 h.inv.blk).1
  refine ⟨h.inv.kept hk (fun hx => hX bw hbw hx h.obw) (fun k hk hx => hX k (h.inv.row.blk_lt hk).1 hx (h.ohv k hk)) (fun d hd => (h.oh d hd).mono (h.inv.holds d hd) (fun k hk h0 hx => hX k hk hx h0)), h.prow.kept hk (fun k hk hx => hX k (h.prow.blk_lt hk).1 hx (h.ops k hk)), (ho bw hbw).trans h.obw, fun k hk => (ho k (h.inv.row.blk_lt hk).1).trans (h.ohv k hk), fun k hk => (ho k (h.prow.blk_lt hk).1).trans (h.ops k hk), fun d hd => (h.oh d hd).mono (h.inv.holds d hd) (fun k hk h0 => (ho k hk).trans h0)⟩

theorem ptrs_set {pls : List PlD} {i : Nat} {p : PlD} (q : PlD) (hp : pls[i]? = some p) (hq : q.pb = p.pb) : plPtrs (pls.set i q) = plPtrs pls := by
  unfold plPtrs
  refine List.ext_getElem? (fun j => ?_)
  rw [List.getElem?_map, List.getElem?_set, List.getElem?_map]
  by_cases hi : i = j
  · subst hi
    have hl : i < pls.length := (List.getElem?_eq_some_iff.1 hp).1
    rw [if_pos rfl, if_pos hl, hp]; simp [hq]
  · simp [hi]

/-- The code's flow of a player, turned. -/
theorem PInv.code {own : Nat → Nat} {w w' : World} {bw : Nat} {ps hv : Value} {hs : List HoldD} {pls : List PlD} (h : PInv own w bw ps hv hs pls) {i : Nat} {p : PlD} (hp : pls[i]? = some p) {sp : Sp} {rs : List (List UInt8)} (hk : Kept (Own own w (2 * i + 1)) w w') (hf : FlowOn w' p.f p.c sp rs (Grown (Own own w (2 * i + 1)) w) none) :
    PInv (growO own w (2 * i + 1)) w' bw ps hv hs (pls.set i { p with sp := sp, rs := rs }) := by
  have ho : ∀ k, k < w.heap.size → growO own w (2 * i + 1) k = own k := fun k hk => growO_old hk
  obtain ⟨a1, a2, a3, a4, a5, a6⟩ := h.side hk (fun k _ hx h0 => by have := hx.1; omega) ho
  refine ⟨a1, by rw [ptrs_set _ hp]; exact a2; rfl, a3, a4, a5, a6, fun j q hq => ?_⟩
  rw [List.getElem?_set] at hq
  have hpb : ∀ (j : Nat) q, pls[j]? = some q → w'.heap[q.pb]? = some (.cells #[.pointer (some ⟨q.f, 0, none⟩), .pointer (some ⟨q.r, 0, none⟩)] 128 (0, 0)) ∧ growO own w (2 * i + 1) q.pb = 0 := fun j q hq => by
    have hl := (Array.getElem?_eq_some_iff.1 (h.pl j q hq).blk).1
    exact ⟨(hk.block q.pb hl (fun hx => by have := hx.1; have := (h.pl j q hq).mine; omega)).trans (h.pl j q hq).blk, (ho _ hl).trans (h.pl j q hq).mine⟩
  by_cases hi : i = j
  · subst hi
    have hl : i < pls.length := (List.getElem?_eq_some_iff.1 hp).1
    rw [if_pos rfl, if_pos hl] at hq
    simp only [Option.some.injEq] at hq
    subst hq
    exact ⟨(hpb i p hp).1, (hpb i p hp).2, hf.grow, (h.pl i p hp).ref.other hk (fun k _ hx h0 => by have := hx.1; omega) ho, (h.pl i p hp).conf⟩
  · rw [if_neg hi] at hq
    exact ⟨(hpb j q hq).1, (hpb j q hq).2, (h.pl j q hq).code.other hk (fun k _ hx h0 => by have := hx.1; omega) ho, (h.pl j q hq).ref.other hk (fun k _ hx h0 => by have := hx.1; omega) ho, (h.pl j q hq).conf⟩

/-- The reference's. -/
theorem PInv.refr {own : Nat → Nat} {w w' : World} {bw : Nat} {ps hv : Value} {hs : List HoldD} {pls : List PlD} (h : PInv own w bw ps hv hs pls) {i : Nat} {p : PlD} (hp : pls[i]? = some p) {sp : Sp} {rs : List (List UInt8)} (hk : Kept (Own own w (2 * i + 2)) w w') (hf : Ref w' p.r p.c sp rs (Grown (Own own w (2 * i + 2)) w)) :
    PInv (growO own w (2 * i + 2)) w' bw ps hv hs (pls.set i { p with sq := sp, rq := rs }) := by
  have ho : ∀ k, k < w.heap.size → growO own w (2 * i + 2) k = own k := fun k hk => growO_old hk
  obtain ⟨a1, a2, a3, a4, a5, a6⟩ := h.side hk (fun k _ hx h0 => by have := hx.1; omega) ho
  refine ⟨a1, by rw [ptrs_set _ hp]; exact a2; rfl, a3, a4, a5, a6, fun j q hq => ?_⟩
  rw [List.getElem?_set] at hq
  have hpb : ∀ (j : Nat) q, pls[j]? = some q → w'.heap[q.pb]? = some (.cells #[.pointer (some ⟨q.f, 0, none⟩), .pointer (some ⟨q.r, 0, none⟩)] 128 (0, 0)) ∧ growO own w (2 * i + 2) q.pb = 0 := fun j q hq => by
    have hl := (Array.getElem?_eq_some_iff.1 (h.pl j q hq).blk).1
    exact ⟨(hk.block q.pb hl (fun hx => by have := hx.1; have := (h.pl j q hq).mine; omega)).trans (h.pl j q hq).blk, (ho _ hl).trans (h.pl j q hq).mine⟩
  by_cases hi : i = j
  · subst hi
    have hl : i < pls.length := (List.getElem?_eq_some_iff.1 hp).1
    rw [if_pos rfl, if_pos hl] at hq
    simp only [Option.some.injEq] at hq
    subst hq
    exact ⟨(hpb i p hp).1, (hpb i p hp).2, (h.pl i p hp).code.other hk (fun k _ hx h0 => by have := hx.1; omega) ho, hf.grow, (h.pl i p hp).conf⟩
  · rw [if_neg hi] at hq
    exact ⟨(hpb j q hq).1, (hpb j q hq).2, (h.pl j q hq).code.other hk (fun k _ hx h0 => by have := hx.1; omega) ho, (h.pl j q hq).ref.other hk (fun k _ hx h0 => by have := hx.1; omega) ho, (h.pl j q hq).conf⟩

/-- The script's own part, turned. -/
theorem PInv.mine {own : Nat → Nat} {w w' : World} {bw : Nat} {ps hv ps' hv' : Value} {hs hs' : List HoldD} {pls : List PlD} {X : Nat → Prop} (h : PInv own w bw ps hv hs pls) (hk : Kept X w w') (hX : ∀ k, k < w.heap.size → X k → own k = 0) (hinv : WInv w' bw ps' hv' hs') (hrow : Row w' 125 1 ps' (plPtrs pls))
    (hhv : ∀ k, hv'.ownBlock = some k → own k = 0 ∨ w.heap.size ≤ k) (hps : ∀ k, ps'.ownBlock = some k → own k = 0 ∨ w.heap.size ≤ k) (hh : ∀ d ∈ hs', HoldIn (fun k => own k = 0 ∨ w.heap.size ≤ k) d)
    (hpb : ∀ p ∈ pls, w'.heap[p.pb]? = w.heap[p.pb]?) : PInv (growO own w 0) w' bw ps' hv' hs' pls := by
  have ho : ∀ k, k < w.heap.size → growO own w 0 k = own k := fun k hk => growO_old hk
  have h0 : ∀ k, own k = 0 ∨ w.heap.size ≤ k → growO own w 0 k = 0 := fun k hk => by
    by_cases hl : k < w.heap.size
    · rw [ho k hl]
      rcases hk with hk | hk
      · exact hk
      · omega
    · exact growO_new (by omega)
  refine ⟨hinv, hrow, h0 _ (.inl h.obw), fun k hk => h0 k (hhv k hk), fun k hk => h0 k (hps k hk), fun d hd => ?_, fun i p hp => ?_⟩
  · obtain ⟨b1, b2, b3, b4⟩ := hh d hd
    exact ⟨h0 _ b1, fun k hk => h0 k (b2 k hk), fun k hk => h0 k (b3 k hk), fun k hk => h0 k (b4 k hk)⟩
  · have hpl := h.pl i p hp
    refine ⟨(hpb p (List.mem_of_getElem? hp)).trans hpl.blk, h0 _ (.inl hpl.mine), hpl.code.other hk (fun k hk hx => by rw [hX k hk hx]; omega) ho, hpl.ref.other hk (fun k hk hx => by rw [hX k hk hx]; omega) ho, hpl.conf⟩
/-- New memory alone. -/
theorem PInv.below {own : Nat → Nat} {w w' : World} {bw : Nat} {ps hv : Value} {hs : List HoldD} {pls : List PlD} (h : PInv own w bw ps hv hs pls) (hb : Below w.heap.size w w') : PInv (growO own w 0) w' bw ps hv hs pls := by
  have hk := Kept.ofBelow hb (fun _ => False)
  have ho : ∀ k, k < w.heap.size → growO own w 0 k = own k := fun k hk => growO_old hk
  obtain ⟨a1, a2, a3, a4, a5, a6⟩ := h.side hk (fun k _ hx => hx.elim) ho
  refine ⟨a1, a2, a3, a4, a5, a6, fun i p hp => ?_⟩
  have hpl := h.pl i p hp
  have hl := (Array.getElem?_eq_some_iff.1 hpl.blk).1
  exact ⟨(hb.block p.pb hl).trans hpl.blk, (ho _ hl).trans hpl.mine, hpl.code.other hk (fun k _ hx => hx.elim) ho, hpl.ref.other hk (fun k _ hx => hx.elim) ho, hpl.conf⟩
end Go.Proofs.YtcfngdnmpogaoaaGreat
