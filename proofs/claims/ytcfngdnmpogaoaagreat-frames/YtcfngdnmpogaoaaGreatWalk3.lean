import Derived.Test.YtcfngdnmpogaoaaGreatWalk2
namespace Go.Proofs.YtcfngdnmpogaoaaGreat
open Go.RowKit


def str (l : List UInt8) : ByteArray := ⟨l.toArray⟩

/-- 'string(b)'. -/
theorem conv_row {w : World} {v : Value} {l : List UInt8} (h : Row w 5 1 v (l.map byteV)) (hl : l ≠ []) :
    ∃ g off cap, v = .slice (some ⟨g, off, none⟩) l.length cap ∧ (convert 30 9 (.slice (some ⟨g, off, none⟩) l.length cap)).run Tryz.prog w = .ok (.string (str l)) w := by
  obtain ⟨g, off, n, cap, rfl, hn, _⟩ := h.shape (by simpa using hl)
  obtain ⟨hb, rfl⟩ := h.bytes
  refine ⟨g, off, cap, rfl, ?_⟩
  exact run_convert_bytes_back (P := Tryz.prog) w 30 9 5 ⟨g, off, none⟩ cap l Tryz.underlying30 Tryz.underlying5 Tryz.underlying9 (fun j hj => by
    rw [Addr.add_lit]; simpa using hb j hj)

theorem str_data (l : List UInt8) : (str l).data.toList = l := by simp [str]
theorem str_size (l : List UInt8) : (str l).size = l.length := by simp [str, ByteArray.size]

theorem shr_low (x n : Nat) : x / 256 ^ n = x / 2 ^ (8 * n) := by
  rw [Nat.pow_mul]

theorem ret_str {a b : ByteArray} (h : a = b) : Ending.returned (.string a) = .returned (.string b) := by rw [h]

set_option maxHeartbeats 800000 in
theorem low_any (x k : Nat) (w : World) (hx0 : x < 18446744073709551616) (hk : k ≤ 8) (hk1 : 1 ≤ k) :
    Calls Tryz.prog 51 #[.int .u64 (x : Int), .int .i64 (k : Int)] w fun e w' => e = .returned (.string (str (low x k))) ∧ Below w.heap.size w w' := by
  have hx : Hid (x < 18446744073709551616) := hx0
  clear hx0
  obtain ⟨i, hi, hz0, hz1, hz2⟩ := info_parts info5
  go_enter Tryz.func51, Tryz.ntmps51
  go_wp2
  go_loopw [5, 6] (fun b c wr => ∃ (n : Nat), n ≤ k ∧ c = .int .i64 (n : Int) ∧ Row wr 5 1 b ((low x n).map byteV) ∧ (∀ g, b.ownBlock = some g → w.heap.size ≤ g) ∧ Below w.heap.size w wr)
    (fun _ c _ => k - (intOf c).toNat)
  case atStart => exact ⟨0, Nat.zero_le _, rfl, Row.nil _ _ _, by simp [Value.ownBlock], Below.refl _ _⟩
  case round =>
    obtain ⟨n, hn, rfl, hr, hu, hb⟩ := hrel
    have hBr := hb.size
    by_cases hlt : n < k
    · have hll : ((low x n).map byteV).length = n := by simp [low_length]
      generalize hL : (low x n).map byteV = L at *
      have HL : Hid ((low x n).map byteV = L) := hL
      clear hL
      go_wp2_with (at_builtin; go_must (refine wpList_append _ rfl _ _ _ _ rfl 5 i (.int .u8 0) 1 1 Tryz.underlying30 hi hz0 hz1 hz2 rfl Nat.one_pos u5 L rfl (hr.alloc _) (.slice (some ⟨wr.heap.size, 0, none⟩) 1 1) 1 [.int .u8 ((x : Int) / 2 ^ (8 * n) % 256)] rfl ?hsrc Nat.one_pos ?h63 ?hby ?next))
      case hsrc => exact Src.ofSlice _ Tryz.underlying30 ⟨wr.heap.size, 0, none⟩ 1 1 _ rfl (one_new wr _ _) (by simp [Value.oneCell'])
      case h63 => rw [hll]; simp only [maxLen]; omega
      case hby => rw [hll]; omega
      intro v' w' ha
      have HA : Hid (App (wr.alloc (.cells #[.int .u8 ((x : Int) / 2 ^ (8 * n) % 256)] 5)) w' 5 1 u5 v' L [.int .u8 ((x : Int) / 2 ^ (8 * n) % 256)]) := ha
      clear ha
      go_wp2
      have ha := HA.out
      have hb1 : Below w.heap.size wr (wr.alloc (.cells #[.int .u8 ((x : Int) / 2 ^ (8 * n) % 256)] 5)) := (Below.refl _ wr).alloc hBr _
      have hb2 := hb1.trans (ha.below hu (by simp; omega))
      have hrr := ha.row
      have e1 : ((x : Int) / 2 ^ (8 * n)) % 256 = ((UInt8.ofNat (x / 256 ^ n)).toNat : Int) := by
        rw [← wrap_byte, shr_low]; simp
      rw [e1, ← HL.out] at hrr
      go_round
      case rel =>
        refine ⟨n + 1, by omega, by go_num, ?_, ha.blk hu (by simp; omega), hb.trans hb2⟩
        rw [low_snoc, List.map_append (l₂ := [_])]
        exact hrr
      case measure => simp [intOf]; omega
    · have hnk : n = k := by omega
      subst hnk
      obtain ⟨g, off, cap, rfl, hcv⟩ := conv_row hr (by intro h; have := congrArg List.length h; simp [low_length] at this; omega)
      generalize hll : low x n = ll at *
      have HL : Hid (low x n = ll) := hll
      clear hll
      go_wp2
      go_ret
      exact ⟨ret_str (by rw [HL.out]), hb⟩


def itemV (kind : Int) (key : ByteArray) (time value tag : Int) : Value := .agg #[.int .i64 kind, .string key, .int .i64 time, .int .i64 value, .int .u32 tag]

def isItemB (kind : Int) (key : ByteArray) (value tag : Int) : Bool :=
  if kind = 2 then decide (key.toList = []) && value == 0 && tag == 0 else kind == 1 && decide (1 ≤ key.size) && decide (key.size ≤ 8)

theorem ret_bool {a b : Bool} (h : a = b) : Ending.returned (.bool a) = .returned (.bool b) := by rw [h]

set_option maxHeartbeats 800000 in
theorem isItem_any (kind : Int) (key : ByteArray) (time value tag : Int) (w : World) (hk : key.size ≤ 9223372036854775807) :
    Calls Tryz.prog 35 #[.agg #[.int .i64 kind, .string key, .int .i64 time, .int .i64 value, .int .u32 tag]] w fun e w' => e = .returned (.bool (isItemB kind key value tag)) ∧ Below w.heap.size w w' := by
  go_enter Tryz.func35, Tryz.ntmps35
  go_wp2
  all_goals go_ret
  all_goals refine ⟨ret_bool ?_, (Below.refl _ _).alloc (Nat.le_refl _) _⟩
  all_goals simp_all [isItemB]
  all_goals first | omega | (rw [Bool.eq_iff_iff]; simp; omega)

set_option maxHeartbeats 800000 in
theorem rIsItem_any (kind : Int) (key : ByteArray) (time value tag : Int) (w : World) (hk : key.size ≤ 9223372036854775807) :
    Calls Tryz.prog 50 #[.agg #[.int .i64 kind, .string key, .int .i64 time, .int .i64 value, .int .u32 tag]] w fun e w' => e = .returned (.bool (isItemB kind key value tag)) ∧ Below w.heap.size w w' := by
  go_enter Tryz.func50, Tryz.ntmps50
  go_wp2
  all_goals go_ret
  all_goals refine ⟨ret_bool ?_, (Below.refl _ _).alloc (Nat.le_refl _) _⟩
  all_goals simp_all [isItemB]
  all_goals first | omega | (rw [Bool.eq_iff_iff]; simp; omega)

end Go.Proofs.YtcfngdnmpogaoaaGreat
