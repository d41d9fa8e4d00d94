import Derived.Test.YtcfngdnmpogaoaaWalk4
namespace Go.Proofs.Ytcfngdnmpogaoaa
open Go.RowKit

def itemBody (kind : Int) (key : ByteArray) (time value : Int) (tag : Nat) : List UInt8 := if kind = 2 then bodyMark time else bodyEvent key.data.toList time value tag
def frameBytes (kind : Int) (key : ByteArray) (time value : Int) (tag : Nat) : List UInt8 :=
  UInt8.ofNat (itemBody kind key time value tag).length :: (itemBody kind key time value tag ++ low (crc (itemBody kind key time value tag)) 2)

theorem keyLen (key : ByteArray) : key.data.toList.length = key.size := by rw [Array.length_toList]; rfl

theorem isItemB_cases {kind : Int} {key : ByteArray} {value tag : Int} (h : isItemB kind key value tag = true) : (kind = 2 ∧ key.toList = [] ∧ value = 0 ∧ tag = 0) ∨ (kind = 1 ∧ 1 ≤ key.size ∧ key.size ≤ 8) := by
  unfold isItemB at h
  split at h
  · simp only [Bool.and_eq_true, decide_eq_true_eq, beq_iff_eq] at h
    exact .inl ⟨by assumption, h.1.1, h.1.2, h.2⟩
  · simp only [Bool.and_eq_true, decide_eq_true_eq, beq_iff_eq] at h
    exact .inr ⟨h.1.1, h.1.2, h.2⟩

theorem itemBody_len {kind : Int} {key : ByteArray} {time value : Int} {tag : Nat} (h : isItemB kind key value tag = true) : 9 ≤ (itemBody kind key time value tag).length ∧ (itemBody kind key time value tag).length ≤ 30 := by
  rcases isItemB_cases h with ⟨rfl, _⟩ | ⟨rfl, h1, h8⟩
  · simp [itemBody, bodyMark, low_length]
  · have := keyLen key
    simp [itemBody, bodyEvent, low_length]; omega

theorem bodyOf_any (kind : Int) (key : ByteArray) (time value : Int) (tag : Nat) (w : World) (h : isItemB kind key value tag = true) (ht : tag < 4294967296) :
    Calls Try.prog 29 #[.agg #[.int .i64 kind, .string key, .int .i64 time, .int .i64 value, .int .u32 (tag : Int)]] w fun e w' =>
      ∃ v', e = .returned v' ∧ Row w' 5 1 v' ((itemBody kind key time value tag).map byteV) ∧ (∀ g, v'.ownBlock = some g → w.heap.size ≤ g) ∧ Below w.heap.size w w' := by
  rcases isItemB_cases h with ⟨rfl, _⟩ | ⟨rfl, h1, h8⟩
  · exact bodyMark_any key time value tag w
  · exact bodyEvent_any key time value tag w h1 h8 ht

set_option maxHeartbeats 800000 in
theorem frame_no (kind : Int) (key : ByteArray) (time value tag : Int) (w : World) (hk : key.size ≤ 9223372036854775807) (h : isItemB kind key value tag = false) :
    Calls Try.prog 18 #[.agg #[.int .i64 kind, .string key, .int .i64 time, .int .i64 value, .int .u32 tag]] w fun e w' =>
      e = .returned (.tuple #[.slice none 0 0, .int .i64 2]) ∧ Below w.heap.size w w' := by
  go_enter Try.func18, Try.ntmps18
  go_wp2_with fail
  refine (isItem_any kind key time value tag _ hk).mono ?_
  rintro e w1 ⟨rfl, hb⟩
  go_wp2
  go_ret2
  exact ⟨rfl, ((Below.refl _ w).alloc (Nat.le_refl _) _).trans (hb.mono (by simp))⟩

set_option maxHeartbeats 800000 in
theorem frame_yes (kind : Int) (key : ByteArray) (time value : Int) (tag : Nat) (w : World) (hk : key.size ≤ 9223372036854775807) (h : isItemB kind key value tag = true) (ht : tag < 4294967296) :
    Calls Try.prog 18 #[.agg #[.int .i64 kind, .string key, .int .i64 time, .int .i64 value, .int .u32 (tag : Int)]] w fun e w' =>
      ∃ v', e = .returned (.tuple #[v', .int .i64 0]) ∧ Row w' 5 1 v' ((frameBytes kind key time value tag).map byteV) ∧ (∀ g, v'.ownBlock = some g → w.heap.size ≤ g) ∧ Below w.heap.size w w' := by
  obtain ⟨i, hi, hz0, hz1, hz2⟩ := info_parts info5
  obtain ⟨hl9, hl30⟩ := itemBody_len (time := time) h
  have hcl : Hid (crc (itemBody kind key time value tag) < 65536) := crc_lt _
  go_enter Try.func18, Try.ntmps18
  go_wp2_with fail
  refine (isItem_any kind key time value tag _ hk).mono ?_
  rintro e w1 ⟨rfl, hb1⟩
  have c0 : ∀ j, j < 5 → w1.cell? ⟨w.heap.size, j, none⟩ = (w.alloc (.cells #[.int .i64 kind, .string key, .int .i64 time, .int .i64 value, .int .u32 (tag : Int)] 69)).cell? ⟨w.heap.size, j, none⟩ := fun j _ => hb1.cell (by simp)
  have d0 : w1.cell? ⟨w.heap.size, 0, none⟩ = some (.int .i64 kind) := by rw [c0 0 (by omega)]; simp
  have d1 : w1.cell? ⟨w.heap.size, 1, none⟩ = some (.string key) := by rw [c0 1 (by omega)]; simp
  have d2 : w1.cell? ⟨w.heap.size, 2, none⟩ = some (.int .i64 time) := by rw [c0 2 (by omega)]; simp
  have d3 : w1.cell? ⟨w.heap.size, 3, none⟩ = some (.int .i64 value) := by rw [c0 3 (by omega)]; simp
  have d4 : w1.cell? ⟨w.heap.size, 4, none⟩ = some (.int .u32 (tag : Int)) := by rw [c0 4 (by omega)]; simp
  clear c0
  have hbw1 : Below w.heap.size w w1 := ((Below.refl _ w).alloc (Nat.le_refl _) _).trans (hb1.mono (by simp))
  have hs1 : w.heap.size < w1.heap.size := by have := hb1.size; simp at this; omega
  clear hb1
  go_wp2_with fail
  refine (bodyOf_any kind key time value tag w1 h ht).mono ?_
  rintro e w2 ⟨v2, rfl, hr2, hg2, hb2⟩
  clear d0 d1 d2 d3 d4
  have HF : Hid (frameBytes kind key time value tag = UInt8.ofNat (itemBody kind key time value tag).length :: (itemBody kind key time value tag ++ low (crc (itemBody kind key time value tag)) 2)) := rfl
  generalize itemBody kind key time value tag = bd at *
  obtain ⟨g2, off2, n2, cap2, rfl, hn2, hc2⟩ := hr2.shape (by intro hh; have := congrArg List.length hh; simp at this; simp [this] at hl9)
  obtain ⟨hby2, rfl⟩ := hr2.bytes
  have hg2' := hg2 g2 rfl
  have hbw2 : Below w.heap.size w w2 := hbw1.trans (hb2.mono (by omega))
  have hs2 : w1.heap.size ≤ w2.heap.size := hb2.size
  have hlz : (bd.length : Int) % 256 = bd.length := by omega
  have hg22 := (hr2.blk_lt (k := g2) rfl).1
  clear hb2 hbw1 hg2
  go_wp2_with (at_builtin; go_must (refine wpList_append _ rfl _ _ _ _ rfl 5 i (.int .u8 0) 1 1 Try.underlying32 hi hz0 hz1 hz2 rfl Nat.one_pos (.slice (some ⟨w2.heap.size, 0, none⟩) 1 1) [.int .u8 (bd.length : Int)] rfl ?hrow (.slice (some ⟨g2, off2, none⟩) bd.length cap2) bd.length (bd.map byteV) rfl ?hsrc ?hpos ?h63 ?hby ?next))
  case hrow => exact Row.lit _ _ _ _ _ rfl rfl (by decide)
  case hpos => omega
  case hsrc =>
    refine Src.ofSlice _ Try.underlying32 ⟨g2, off2, none⟩ bd.length cap2 _ (by simp) (fun j u hu => ?_) (fun u hu => ?_)
    · rw [Addr.add_lit]
      have hj : j < bd.length := by have := (List.getElem?_eq_some_iff.1 hu).1; simpa using this
      rw [(hr2.alloc _).cell j (by omega)]; exact hu
    · obtain ⟨_, _, rfl⟩ := List.mem_map.1 hu; rfl
  case h63 => simp only [maxLen, List.length_cons, List.length_nil]; omega
  case hby => simp only [List.length_cons, List.length_nil]; omega
  intro v3 w3 ha
  have hb3 : Below w2.heap.size w2 w3 := ((Below.refl _ _).alloc (Nat.le_refl _) _).trans (ha.below (by intro g hg; simp [Value.ownBlock] at hg; omega) (by simp))
  have hg3 := ha.blk (B := w2.heap.size) (by intro g hg; simp [Value.ownBlock] at hg; omega) (by simp)
  have hr3 := ha.row
  rw [show [Value.int .u8 (bd.length : Int)] ++ bd.map byteV = (UInt8.ofNat bd.length :: bd).map byteV from by
    have e : (UInt8.ofNat bd.length).toNat = bd.length := by simp [UInt8.toNat_ofNat']; omega
    simp [byteV, e]] at hr3
  clear ha
  have hby3 : Bytes w3 g2 off2 bd := fun j hj => by rw [hb3.cell (by exact hg22)]; exact hby2 j hj
  go_wp2_with fail
  refine (check_any g2 off2 cap2 bd w3 (by omega) hby3).mono ?_
  rintro e w4 ⟨rfl, rfl⟩
  have hs3 := hb3.size
  generalize hcx : crc bd = C at *
  clear hcx
  have hcl' := hcl.out
  go_wp2_with fail
  refine (appendLow_any v3 _ C 2 w2.heap.size _ hr3 hg3 hs3 (by omega) (by omega) (by simp; omega)).mono ?_
  rintro e w5 ⟨v5, rfl, hr5, hg5, hb5⟩
  go_wp2
  go_ret2
  refine ⟨v5, rfl, by rw [HF.out]; exact hr5, fun g hg => ?_, hbw2.trans ((hb3.trans hb5).mono (by omega))⟩
  have := hg5 g hg; omega

theorem toList_nil {s : ByteArray} (h : s.toList = []) : s.data.toList = [] := by rw [← ByteArray.toList_eq]; exact h

end Go.Proofs.Ytcfngdnmpogaoaa
