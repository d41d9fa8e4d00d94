import Derived.Test.YtcfngdnmpogaoaaGreatWalkK
namespace Go.Proofs.YtcfngdnmpogaoaaGreat
open Go.RowKit

set_option maxRecDepth 20000 in
set_option maxHeartbeats 1600000 in
theorem still_any (b off cap : Nat) (s : ByteArray) (n : Nat) (w : World) (_hs : s.size ≤ n) (hn : n ≤ 9223372036854775807) (h1 : ∀ j (h : j < s.size), w.cell? ⟨b, off + j, none⟩ = some (.int .u8 (s[j].toNat : Int))) (h2 : ∀ j, s.size ≤ j → j < n → w.cell? ⟨b, off + j, none⟩ = some (.int .u8 201)) :
    Calls Tryz.prog 58 #[.slice (some ⟨b, off, none⟩) n cap, .string s] w fun e w' => e = .returned (.bool true) ∧ ∃ m, w' = w.drewN m := by
  have H1 : Hid (∀ j (h : j < s.size), w.cell? ⟨b, off + j, none⟩ = some (.int .u8 (s[j].toNat : Int))) := h1
  have H2 : Hid (∀ j, s.size ≤ j → j < n → w.cell? ⟨b, off + j, none⟩ = some (.int .u8 201)) := h2
  clear h1 h2
  go_enter Tryz.func58, Tryz.ntmps58
  go_wp2
  go_loopw [5] (fun i wr => ∃ k : Nat, k ≤ n ∧ i = .int .i64 (k : Int) ∧ ∃ m, wr = w.drewN m) (fun i _ => n - (intOf i).toNat)
  case atStart => exact ⟨0, Nat.zero_le _, rfl, 0, rfl⟩
  case round =>
    obtain ⟨k, hk, rfl, m, rfl⟩ := hrel
    by_cases hkn : k < n
    · by_cases hks : k < s.size
      · have hcell := H1.out k hks
        have hdk : decide (s.size ≤ k) = false := decide_eq_false (by omega)
        go_wp2
        go_quiet (fail)
        go_wp2
        go_roundw
        case rel => exact ⟨k + 1, by omega, by go_num, m + nq, by simp⟩
        case measure => simp [intOf]; omega
      · have hcell := H2.out k (by omega) hkn
        have hdk2 : decide (s.size ≤ k) = true := decide_eq_true (by omega)
        have hkI : (s.size : Int) ≤ (k : Int) := by omega
        have hdk : decide (k < s.size) = false := decide_eq_false (by omega)
        go_wp2
        go_quiet (fail)
        go_wp2
        go_roundw
        case rel => exact ⟨k + 1, by omega, by go_num, m + nq, by simp⟩
        case measure => simp [intOf]; omega
    · go_wp2
      go_ret
      exact ⟨rfl, m, rfl⟩

end Go.Proofs.YtcfngdnmpogaoaaGreat
