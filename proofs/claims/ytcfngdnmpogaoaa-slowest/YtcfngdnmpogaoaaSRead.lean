/-
  slices.Grow, slices.Concat of bytes.
-/
import Derived.Test.YtcfngdnmpogaoaaSDo
import Derived.Test.YtcfngdnmpogaoaaMem2
namespace Go.Proofs.Ytcfngdnmpogaoaa
open Go.RowKit

theorem Row.slice {w : World} {v : Value} {xs : List Value} {e : TypeId} (h : Row w e 1 v xs) : ∃ a c, v = .slice a xs.length c ∧ xs.length ≤ c := by
  rcases h with ⟨rfl, rfl⟩ | ⟨g, off, n, cap, cur, rfl, _, hn, _, _, hl, _⟩
  · exact ⟨none, 0, rfl, Nat.le_refl _⟩
  · have : xs.length = n := by simpa using hl
    rw [this]
    exact ⟨_, cap, rfl, hn⟩

theorem grow_zero (w : World) :
    Calls Try.prog 45 #[.slice none 0 0, .int .i64 0] w fun e w' => e = .returned (.slice none 0 0) ∧ w' = w := by
  go_enter Try.func45, Try.ntmps45
  go_wp2
  go_ret
  exact ⟨rfl, rfl⟩

set_option maxRecDepth 20000 in
set_option maxHeartbeats 1600000 in
theorem grow_some (n : Nat) (w : World) (h0 : 0 < n) (hn : n ≤ 140737488355328) :
    Calls Try.prog 45 #[.slice none 0 0, .int .i64 n] w fun e w' => ∃ cap, e = .returned (.slice (some ⟨w.heap.size, 0, none⟩) 0 cap) ∧ n ≤ cap ∧ Row w' 5 1 (.slice (some ⟨w.heap.size, 0, none⟩) 0 cap) [] ∧ Below w.heap.size w w' := by
  obtain ⟨i, hi, hz0, hz1, hz2⟩ := info_parts info5
  go_enter Try.func45, Try.ntmps45
  go_wp2_with (at_builtin; go_must (refine wpList_append_make _ rfl _ _ _ _ rfl 5 i (.int .u8 0) 1 1 Try.underlying32 Try.underlying3 hi hz0 hz1 hz2 rfl Nat.one_pos n rfl rfl h0 ?hm ?hb ?next))
  case hm => simp only [maxLen]; omega
  case hb => omega
  intro cap w' hc hk hb hs hr
  go_wp2
  go_ret
  exact ⟨cap, rfl, hc, hr, hb⟩
theorem oneCell_bytes (l : List UInt8) : ∀ u ∈ l.map byteV, u.oneCell' = true := fun u hu => by
  obtain ⟨_, _, rfl⟩ := List.mem_map.1 hu; rfl

/-- What Grow gives, at whatever size. -/
theorem grow_any (n : Nat) (w : World) (hn : n ≤ 140737488355328) :
    Calls Try.prog 45 #[.slice none 0 0, .int .i64 n] w fun e w' => ∃ v, e = .returned v ∧ Row w' 5 1 v [] ∧ (∀ g, v.ownBlock = some g → w.heap.size ≤ g) ∧ Below w.heap.size w w' := by
  by_cases h0 : 0 < n
  · refine (grow_some n w h0 hn).mono ?_
    rintro e w' ⟨cap, rfl, _, hr, hb⟩
    exact ⟨_, rfl, hr, fun g hg => by simp [Value.ownBlock] at hg; omega, hb⟩
  · have : n = 0 := by omega
    subst this
    refine (grow_zero w).mono ?_
    rintro e w' ⟨rfl, rfl⟩
    exact ⟨_, rfl, Row.nil _ _ _, fun g hg => by simp [Value.ownBlock] at hg, Below.refl _ _⟩

set_option maxRecDepth 20000 in
set_option maxHeartbeats 3200000 in
theorem concat_two (b : Nat) (v1 v2 : Value) (l1 l2 : List UInt8) (w : World) (hb : b < w.heap.size) (c0 : w.cell? ⟨b, 0, none⟩ = some v1) (c1 : w.cell? ⟨b, 1, none⟩ = some v2) (h1 : Row w 5 1 v1 (l1.map byteV)) (h2 : Row w 5 1 v2 (l2.map byteV)) (hl : l1.length + l2.length ≤ 140737488355328) :
    Calls Try.prog 24 #[.slice (some ⟨b, 0, none⟩) 2 2] w fun e w' => ∃ v, e = .returned v ∧ Row w' 5 1 v ((l1 ++ l2).map byteV) ∧ (∀ g, v.ownBlock = some g → w.heap.size ≤ g) ∧ Below w.heap.size w w' := by
  obtain ⟨i, hi, hz0, hz1, hz2⟩ := info_parts info5
  have H1 : Hid (Row w 5 1 v1 (l1.map byteV)) := h1
  have H2 : Hid (Row w 5 1 v2 (l2.map byteV)) := h2
  have HB1 : Hid (∀ k, v1.ownBlock = some k → k < w.heap.size) := fun k hk => (h1.blk_lt hk).1
  have HB2 : Hid (∀ k, v2.ownBlock = some k → k < w.heap.size) := fun k hk => (h2.blk_lt hk).1
  obtain ⟨a1, k1, hv1, hk1⟩ := h1.slice
  obtain ⟨a2, k2, hv2, hk2⟩ := h2.slice
  rw [List.length_map] at hv1 hv2 hk1 hk2
  subst hv1 hv2
  clear h1 h2
  go_enter Try.func24, Try.ntmps24
  go_wp2
  refine wp_loop_rounds 3 ?_
  rw [rounds_succ]
  go_wp2
  rw [rounds_succ]
  go_wp2
  rw [rounds_succ]
  go_wp2_with fail
  have HG := grow_any (l1.length + l2.length) w hl
  rw [Int.natCast_add] at HG
  refine HG.mono ?_
  rintro e w1 ⟨v0, rfl, hr0, hg0, hb1⟩
  have d0 : w1.cell? ⟨b, 0, none⟩ = some (.slice a1 l1.length k1) := by rw [hb1.cell hb]; exact c0
  have d1 : w1.cell? ⟨b, 1, none⟩ = some (.slice a2 l2.length k2) := by rw [hb1.cell hb]; exact c1
  have R1 := H1.out.below hb1 HB1.out
  have R2 := H2.out.below hb1 HB2.out
  have S1 : Src Try.prog 1 32 (.slice a1 l1.length k1) l1.length (l1.map byteV) w1 := by
    have := Row.src (P := Try.prog) w1 R1 (oneCell_bytes l1) Try.underlying32
    rw [List.length_map] at this; exact this
  clear c0 c1 HG
  go_wp2
  refine wp_loop_rounds 3 ?_
  rw [rounds_succ]
  go_wp2_with (at_builtin; go_must (refine wpList_append_any _ rfl _ _ _ _ rfl 5 i (.int .u8 0) 1 1 Try.underlying32 hi hz0 hz1 hz2 rfl Nat.one_pos v0 [] rfl hr0 (.slice a1 l1.length k1) l1.length (l1.map byteV) rfl S1 ?h63 ?hby ?next))
  case h63 => simp only [maxLen, List.length_nil]; omega
  case hby => simp only [List.length_nil]; omega
  intro v3 w3 ha _
  have hs1 := hb1.size
  have hb3 := ha.below hg0 hs1
  have hg3 := ha.blk hg0 hs1
  have hr3 := ha.row
  have e1 : w3.cell? ⟨b, 1, none⟩ = some (.slice a2 l2.length k2) := by rw [hb3.cell hb]; exact d1
  have R2' := R2.below hb3 HB2.out
  have S2 : Src Try.prog 1 32 (.slice a2 l2.length k2) l2.length (l2.map byteV) w3 := by
    have := Row.src (P := Try.prog) w3 R2' (oneCell_bytes l2) Try.underlying32
    rw [List.length_map] at this; exact this
  rw [List.nil_append] at hr3
  have HB3 : Hid (Below w.heap.size w w3) := hb1.trans hb3
  clear ha hb3 d0 d1 S1 R1 R2 hb1 hr0 hg0
  go_wp2
  rw [rounds_succ]
  go_wp2_with (at_builtin; go_must (refine wpList_append_any _ rfl _ _ _ _ rfl 5 i (.int .u8 0) 1 1 Try.underlying32 hi hz0 hz1 hz2 rfl Nat.one_pos v3 (l1.map byteV) rfl hr3 (.slice a2 l2.length k2) l2.length (l2.map byteV) rfl S2 ?h63b ?hbyb ?nextb))
  case h63b => simp only [maxLen, List.length_map]; omega
  case hbyb => simp only [List.length_map]; omega
  intro v4 w4 ha _
  have hs3 := HB3.out.size
  have hb4 := ha.below hg3 hs3
  have hg4 := ha.blk hg3 hs3
  have hr4 := ha.row
  have HB4 : Hid (Below w.heap.size w w4) := HB3.out.trans hb4
  clear ha hb4 e1 S2 R2'
  go_wp2
  rw [rounds_succ]
  go_wp2
  go_ret
  exact ⟨v4, rfl, by rw [List.map_append]; exact hr4, hg4, HB4.out⟩
end Go.Proofs.Ytcfngdnmpogaoaa
