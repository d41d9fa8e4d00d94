import Derived.Test.YtcfngdnmpogaoaaWalk3
namespace Go.Proofs.Ytcfngdnmpogaoaa
open Go.RowKit

/-- A number of 64 bits as it is without a sign. -/
def toU (x : Int) : Nat := (IntKind.u64.wrap x).toNat
theorem toU_eq (x : Int) : IntKind.u64.wrap x = ((toU x : Nat) : Int) := by
  have : 0 ≤ IntKind.u64.wrap x := by rw [IntKind.wrap_u64]; omega
  unfold toU; omega
theorem toU_lt (x : Int) : toU x < 18446744073709551616 := by
  have : IntKind.u64.wrap x < 18446744073709551616 := by rw [IntKind.wrap_u64]; omega
  unfold toU; omega

theorem Row.lit (w : World) (e : TypeId) (xs : List Value) (g n : Nat) (hg : g = w.heap.size) (hn : xs.length = n) (hm : n ≤ maxLen) :
    Row (w.alloc (.cells xs.toArray e)) e 1 (.slice (some ⟨g, 0, none⟩) n n) xs := by
  subst hg
  refine .inr ⟨w.heap.size, 0, n, n, xs.toArray, rfl, heap_alloc_new w _, Nat.le_refl _, hm, by simp [hn], by simpa using hn, fun j _ => by simp⟩

def bodyMark (time : Int) : List UInt8 := 2 :: low (toU time) 8
def bodyEvent (key : List UInt8) (time value : Int) (tag : Nat) : List UInt8 := (((1 :: UInt8.ofNat key.length :: key) ++ low (toU time) 8) ++ low (toU value) 8) ++ low tag 4

set_option maxHeartbeats 800000 in
theorem bodyMark_any (key : ByteArray) (time value tag : Int) (w : World) :
    Calls Try.prog 29 #[.agg #[.int .i64 2, .string key, .int .i64 time, .int .i64 value, .int .u32 tag]] w fun e w' =>
      ∃ v', e = .returned v' ∧ Row w' 5 1 v' ((bodyMark time).map byteV) ∧ (∀ g, v'.ownBlock = some g → w.heap.size ≤ g) ∧ Below w.heap.size w w' := by
  have hT := toU_eq time
  have hb : ∀ o o' : Obj, Below w.heap.size w ((w.alloc o).alloc o') := fun o o' => ((Below.refl _ w).alloc (Nat.le_refl _) o).alloc (by simp) o'
  have Hb : Hid (∀ o o' : Obj, Below w.heap.size w ((w.alloc o).alloc o')) := hb
  clear hb
  go_enter Try.func29, Try.ntmps29
  go_wp2_with fail
  refine (appendLow_any _ [2] (toU time) 8 w.heap.size _ ?_ ?_ ?_ (toU_lt _) (by omega) (by decide)).mono ?_
  · exact Row.lit _ _ _ _ _ (by simp) rfl (by decide)
  · intro g hg; simp [Value.ownBlock] at hg; omega
  · simp; omega
  rintro e w' ⟨v', rfl, hr, hg, hbw⟩
  go_wp2
  go_ret
  exact ⟨v', rfl, hr, hg, (Hb.out _ _).trans hbw⟩

theorem byteCells_eq (s : ByteArray) : byteCells s = s.data.toList.map byteV := rfl

set_option maxHeartbeats 800000 in
theorem bodyEvent_any (key : ByteArray) (time value : Int) (tag : Nat) (w : World) (h1 : 1 ≤ key.size) (h8 : key.size ≤ 8) (ht : tag < 4294967296) :
    Calls Try.prog 29 #[.agg #[.int .i64 1, .string key, .int .i64 time, .int .i64 value, .int .u32 (tag : Int)]] w fun e w' =>
      ∃ v', e = .returned v' ∧ Row w' 5 1 v' ((bodyEvent key.data.toList time value tag).map byteV) ∧ (∀ g, v'.ownBlock = some g → w.heap.size ≤ g) ∧ Below w.heap.size w w' := by
  obtain ⟨i, hi, hz0, hz1, hz2⟩ := info_parts info5
  have hT := toU_eq time
  have hV := toU_eq value
  have hks : key.data.toList.length = key.size := by rw [Array.length_toList]; rfl
  have HK : Hid (key.data.toList.length = key.size) := hks
  clear hks
  have hkz : (key.size : Int) % 256 = key.size := by omega
  go_enter Try.func29, Try.ntmps29
  go_wp2_with (at_builtin; go_must (refine wpList_append _ rfl _ _ _ _ rfl 5 i (.int .u8 0) 1 1 Try.underlying32 hi hz0 hz1 hz2 rfl Nat.one_pos (.slice (some ⟨w.heap.size + 1, 0, none⟩) 2 2) [.int .u8 1, .int .u8 (key.size : Int)] rfl ?hrow (.string key) key.size (byteCells key) rfl ?hsrc h1 ?h63 ?hby ?next))
  case hrow => exact Row.lit _ _ _ _ _ (by simp) rfl (by decide)
  case hsrc => exact Src.ofString _ Try.underlying9 key
  case h63 => simp only [maxLen, List.length_cons, List.length_nil]; omega
  case hby => simp only [List.length_cons, List.length_nil]; omega
  intro v1 w1 ha
  have hb0 : Below (w.heap.size + 1) (w.alloc (.cells #[.int .i64 1, .string key, .int .i64 time, .int .i64 value, .int .u32 (tag : Int)] 69)) w1 :=
    ((Below.refl _ _).alloc (by simp) _).trans (ha.below (by intro g hg; simp [Value.ownBlock] at hg; omega) (by simp))
  have hg1 := ha.blk (B := w.heap.size + 1) (by intro g hg; simp [Value.ownBlock] at hg; omega) (by simp)
  have hr1 := ha.row
  rw [byteCells_eq, show [Value.int .u8 1, Value.int .u8 (key.size : Int)] ++ key.data.toList.map byteV = (1 :: UInt8.ofNat key.data.toList.length :: key.data.toList).map byteV from by
    have e : (UInt8.ofNat key.size).toNat = key.size := by simp [UInt8.toNat_ofNat']; omega
    rw [HK.out, List.map_cons, List.map_cons]
    simp [byteV, e]] at hr1
  clear ha
  have hbox : Hid (∀ W : World, Below (w.heap.size + 1) (w.alloc (.cells #[.int .i64 1, .string key, .int .i64 time, .int .i64 value, .int .u32 (tag : Int)] 69)) W →
      W.cell? ⟨w.heap.size, 2, none⟩ = some (.int .i64 time) ∧ W.cell? ⟨w.heap.size, 3, none⟩ = some (.int .i64 value) ∧ W.cell? ⟨w.heap.size, 4, none⟩ = some (.int .u32 (tag : Int)) ∧ w.heap.size + 1 ≤ W.heap.size) := by
    intro W hW
    have hs := hW.size
    refine ⟨?_, ?_, ?_, by simpa using hs⟩ <;> (rw [hW.cell (by simp)]; simp)
  have hend : Hid (∀ W : World, Below (w.heap.size + 1) (w.alloc (.cells #[.int .i64 1, .string key, .int .i64 time, .int .i64 value, .int .u32 (tag : Int)] 69)) W → Below w.heap.size w W) := by
    intro W hW
    exact ((Below.refl _ w).alloc (Nat.le_refl _) _).trans (hW.mono (by omega))
  generalize hW0 : w.alloc (.cells #[.int .i64 1, .string key, .int .i64 time, .int .i64 value, .int .u32 (tag : Int)] 69) = W0 at *
  clear hW0
  obtain ⟨c2, c3, c4, hs1⟩ := hbox.out _ hb0
  go_wp2_with fail
  refine (appendLow_any v1 _ (toU time) 8 (w.heap.size + 1) _ hr1 hg1 hs1 (toU_lt _) (by omega) (by simp [HK.out]; omega)).mono ?_
  clear c2 c3 c4
  rintro e w2 ⟨v2, rfl, hr2, hg2, hb2⟩
  have hb2 := hb0.trans hb2
  obtain ⟨c2, c3, c4, hs2⟩ := hbox.out _ hb2
  go_wp2_with fail
  refine (appendLow_any v2 _ (toU value) 8 (w.heap.size + 1) _ hr2 hg2 hs2 (toU_lt _) (by omega) (by simp [HK.out, low_length]; omega)).mono ?_
  clear c2 c3 c4
  rintro e w3 ⟨v3, rfl, hr3, hg3, hb3⟩
  have hb3 := hb2.trans hb3
  obtain ⟨c2, c3, c4, hs3⟩ := hbox.out _ hb3
  go_wp2_with fail
  refine (appendLow_any v3 _ tag 4 (w.heap.size + 1) _ hr3 hg3 hs3 (by omega) (by omega) (by simp [HK.out, low_length]; omega)).mono ?_
  rintro e w4 ⟨v4, rfl, hr4, hg4, hb4⟩
  go_wp2
  go_ret
  exact ⟨v4, rfl, hr4, fun g hg => by have := hg4 g hg; omega, hend.out _ (hb3.trans hb4)⟩

end Go.Proofs.Ytcfngdnmpogaoaa
