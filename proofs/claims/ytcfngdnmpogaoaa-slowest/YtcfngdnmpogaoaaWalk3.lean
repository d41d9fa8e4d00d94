import Derived.Test.YtcfngdnmpogaoaaWalk2
namespace Go.Proofs.Ytcfngdnmpogaoaa
open Go.RowKit


def str (l : List UInt8) : ByteArray := ⟨l.toArray⟩

/-- 'string(b)'. -/
theorem conv_row {w : World} {v : Value} {l : List UInt8} (h : Row w 5 1 v (l.map byteV)) (hl : l ≠ []) :
    ∃ g off cap, v = .slice (some ⟨g, off, none⟩) l.length cap ∧ (convert 32 9 (.slice (some ⟨g, off, none⟩) l.length cap)).run Try.prog w = .ok (.string (str l)) w := by
  obtain ⟨g, off, n, cap, rfl, hn, _⟩ := h.shape (by simpa using hl)
  obtain ⟨hb, rfl⟩ := h.bytes
  refine ⟨g, off, cap, rfl, ?_⟩
  exact run_convert_bytes_back (P := Try.prog) w 32 9 5 ⟨g, off, none⟩ cap l Try.underlying32 Try.underlying5 Try.underlying9 (fun j hj => by
    rw [Addr.add_lit]; simpa using hb j hj)

theorem str_data (l : List UInt8) : (str l).data.toList = l := by simp [str]
theorem str_size (l : List UInt8) : (str l).size = l.length := by simp [str, ByteArray.size]

theorem shr_low (x n : Nat) : x / 256 ^ n = x / 2 ^ (8 * n) := by
  rw [Nat.pow_mul]

theorem ret_str {a b : ByteArray} (h : a = b) : Ending.returned (.string a) = .returned (.string b) := by rw [h]

def itemV (kind : Int) (key : ByteArray) (time value tag : Int) : Value := .agg #[.int .i64 kind, .string key, .int .i64 time, .int .i64 value, .int .u32 tag]

def isItemB (kind : Int) (key : ByteArray) (value tag : Int) : Bool :=
  if kind = 2 then decide (key.toList = []) && value == 0 && tag == 0 else kind == 1 && decide (1 ≤ key.size) && decide (key.size ≤ 8)

theorem ret_bool {a b : Bool} (h : a = b) : Ending.returned (.bool a) = .returned (.bool b) := by rw [h]

set_option maxHeartbeats 800000 in
theorem isItem_any (kind : Int) (key : ByteArray) (time value tag : Int) (w : World) (hk : key.size ≤ 9223372036854775807) :
    Calls Try.prog 28 #[.agg #[.int .i64 kind, .string key, .int .i64 time, .int .i64 value, .int .u32 tag]] w fun e w' => e = .returned (.bool (isItemB kind key value tag)) ∧ Below w.heap.size w w' := by
  go_enter Try.func28, Try.ntmps28
  go_wp2
  all_goals go_ret
  all_goals refine ⟨ret_bool ?_, (Below.refl _ _).alloc (Nat.le_refl _) _⟩
  all_goals simp_all [isItemB]
  all_goals first | omega | (rw [Bool.eq_iff_iff]; simp; omega)

end Go.Proofs.Ytcfngdnmpogaoaa
