/-
  The script's helpers of package sillkeep: pick, mark, flow; the flow of the statement Slowest, state by state.
-/
import Derived.Test.YtcfngdnmpogaoaaSPlay
namespace Go.Proofs.Ytcfngdnmpogaoaa
open Go.RowKit Go.MuLone

def pickZ (c n : Int) : Int := (if c < 0 then -(c + 1) else c) % n

theorem pickZ_lt (c n : Int) (hn : 1 ≤ n) : 0 ≤ pickZ c n ∧ pickZ c n < n := ⟨Int.emod_nonneg _ (by omega), Int.emod_lt_of_pos _ (by omega)⟩

theorem pick_any (c n : Int) (w : World) (h1 : -9223372036854775808 ≤ c) (h2 : c ≤ 9223372036854775807) (hn : 1 ≤ n) (hn2 : n ≤ 4611686018427387904) :
    Calls Try.prog 4 #[.int .i64 c, .int .i64 n] w fun e w' => e = .returned (.int .i64 (pickZ c n)) ∧ w' = w := by
  have hz : ¬ n = 0 := by omega
  by_cases hc : c < 0
  · have e0 : wrap64 (c + 1) = c + 1 := by unfold wrap64; omega
    have e1 : wrap64 (-(c + 1)) = -(c + 1) := by unfold wrap64; omega
    obtain ⟨d, hd⟩ : ∃ d, -(c + 1) = d := ⟨_, rfl⟩
    have hd0 : 0 ≤ d := by omega
    have hm : d.tmod n = d % n := Int.tmod_eq_emod_of_nonneg hd0
    have b1 := Int.emod_nonneg d hz
    have b2 := Int.emod_lt_of_pos d (show 0 < n by omega)
    have e2 : IntKind.i64.wrap (d.tmod n) = d % n := by rw [hm, IntKind.wrap_i64]; omega
    have hp : pickZ c n = d % n := by rw [pickZ, if_pos hc, hd]
    rw [hp]
    rw [hd] at e1
    go_enter Try.func4, Try.ntmps4
    go_wp2
    go_ret
    exact ⟨rfl, rfl⟩
  · have hm : c.tmod n = c % n := Int.tmod_eq_emod_of_nonneg (by omega)
    have b1 := Int.emod_nonneg c hz
    have b2 := Int.emod_lt_of_pos c (show 0 < n by omega)
    have e2 : IntKind.i64.wrap (c.tmod n) = c % n := by rw [hm, IntKind.wrap_i64]; omega
    have hp : pickZ c n = c % n := by rw [pickZ, if_neg hc]
    rw [hp]
    go_enter Try.func4, Try.ntmps4
    go_wp2
    go_ret
    exact ⟨rfl, rfl⟩

theorem mark_any (t : Int) (w : World) :
    Calls Try.prog 9 #[.int .i64 t] w fun e w' => ∃ v, e = .returned v ∧ Row w' 5 1 v ((markB t).map byteV) ∧ (∀ g, v.ownBlock = some g → w.heap.size ≤ g) ∧ Below w.heap.size w w' := by
  have hF := fun W => frame_yes 2 ⟨#[]⟩ t 0 0 W (by decide) item_mark2 (by decide)
  go_enter Try.func9, Try.ntmps9
  go_wp2_with fail
  refine (hF _).mono ?_
  rintro e W ⟨v, rfl, hr, hg, hb⟩
  go_wp2
  go_ret
  exact ⟨v, rfl, hr, hg, hb⟩

abbrev srcO : SSrc := ⟨true, false, .slice none 0 0, 0, false⟩
abbrev srcM (t : Int) : SSrc := ⟨true, false, .slice none 0 0, t, true⟩

set_option maxHeartbeats 1600000 in
theorem flow_any (size slide late keys : Int) (w : World) (hc : isConf size slide late keys) :
    Calls Try.prog 5 #[confV size slide late keys] w fun e w' => ∃ g, w.heap.size ≤ g ∧ e = .returned (.pointer (some ⟨g, 0, none⟩)) ∧ SF w' g ((SCells.new size slide late keys).setSrc 0 srcO) ∧ Below w.heap.size w w' := by
  have HC : Hid (isConf size slide late keys) := hc
  clear hc
  go_enter Try.func5, Try.ntmps5
  go_wp2_with fail
  refine (new_yes size slide late keys _ HC.out).mono ?_
  rintro e W ⟨g, hg, rfl, hsf, hb⟩
  have HS : Hid (SF W g (SCells.new size slide late keys)) := hsf
  have HB : Hid (Below w.heap.size w W) := ((Below.refl _ w).alloc (Nat.le_refl _) _).trans (hb.mono (by simp))
  have hgw : w.heap.size ≤ g := by simp at hg; omega
  clear hsf hb hg
  have hO := fun W h => open_yes g 0 (SCells.new size slide late keys) SSrc.zero W h rfl rfl rfl
  go_wp2_with fail
  refine (hO _ HS.out).mono ?_
  rintro e W2 ⟨rfl, h2, k2⟩
  have H2 : Hid (SF W2 g ((SCells.new size slide late keys).setSrc 0 srcO)) := h2
  have HB2 : Hid (Below w.heap.size w W2) := HB.out.trans (k2.toBelow HB.out.size (fun k hk e => by omega))
  clear h2 k2 hO
  go_wp2
  go_ret
  exact ⟨g, hgw, rfl, H2.out, HB2.out⟩

/-- The flow of Slowest. -/
def stS (late : Int) (s0 s1 s2 : SSrc) (lt : Int) (li : Bool) (m k : Int) : SCells :=
  ⟨0, 10, 10, late, 2, [s0, s1, s2, SSrc.zero, SSrc.zero, SSrc.zero, SSrc.zero, SSrc.zero], lt, li, .slice none 0 0, .slice none 0 0, ⟨0, 0, 0, 0, m, k⟩⟩

theorem stS_moved (late : Int) (s0 s1 s2 : SSrc) (lt x : Int) (li : Bool) (m k : Int) (h : leastF [s0, s1, s2, SSrc.zero, SSrc.zero, SSrc.zero, SSrc.zero, SSrc.zero] = (x, true)) :
    (stS late s0 s1 s2 lt li m k).moved = if li = false ∨ lt < x - late then stS late s0 s1 s2 (x - late) true m k else stS late s0 s1 s2 lt li m k := by
  have h' : leastF (stS late s0 s1 s2 lt li m k).src = (x, true) := h
  rw [SCells.moved, h']
  rfl

theorem clampT_id (t : Int) (h1 : -2305843009213693952 ≤ t) (h2 : t ≤ 2305843009213693952) : clampT t = t := by
  unfold clampT
  (repeat' split) <;> omega

theorem stS_fits (late : Int) (s0 s1 s2 : SSrc) (lt : Int) (li : Bool) (m k : Int) (hl : 0 ≤ late ∧ late ≤ 1000) (h0 : -2305843009213693952 ≤ s0.time ∧ s0.time ≤ 2305843009213693952) (h1 : -2305843009213693952 ≤ s1.time ∧ s1.time ≤ 2305843009213693952) (h2 : -2305843009213693952 ≤ s2.time ∧ s2.time ≤ 2305843009213693952) : (stS late s0 s1 s2 lt li m k).Fits := by
  refine ⟨fun s hs => ?_, by show 0 ≤ late ∧ late ≤ _; omega⟩
  simp only [stS, List.mem_cons, List.not_mem_nil, or_false] at hs
  rcases hs with rfl | rfl | rfl | rfl | rfl | rfl | rfl | rfl <;> first | assumption | simp [SSrc.zero]

theorem stS_add (late : Int) (s0 s1 s2 : SSrc) (lt : Int) (li : Bool) (m k : Int) (h0 : 0 ≤ m) (h1 : m < 100) : (stS late s0 s1 s2 lt li m k).addMark = stS late s0 s1 s2 lt li (m + 1) k := by
  have e : wrap64 (m + 1) = m + 1 := by unfold wrap64; omega
  show { stS late s0 s1 s2 lt li m k with n := { (stS late s0 s1 s2 lt li m k).n with marks := wrap64 (m + 1) } } = _
  rw [e]; rfl
theorem stS_addB (late : Int) (s0 s1 s2 : SSrc) (lt : Int) (li : Bool) (m : Int) : (stS late s0 s1 s2 lt li m 0).addBroken = stS late s0 s1 s2 lt li m 1 := by
  have e : wrap64 (0 + 1) = 1 := by unfold wrap64; omega
  show { stS late s0 s1 s2 lt li m 0 with n := { (stS late s0 s1 s2 lt li m 0).n with broken := wrap64 (0 + 1) } } = _
  rw [e]; rfl
theorem srcO_raised (a : Int) : srcO.raised a = srcM a := by rw [SSrc.raised, if_pos (.inl rfl)]

/-- The first mark. -/
theorem stS_mark0 (late a : Int) (h1 : -2305843009213693952 ≤ a) (h2 : a ≤ 2305843009213693952) : (stS late srcO srcO srcO 0 false 0 0).marked 0 srcO a = stS late (srcM a) srcO srcO (a - late) true 1 0 := by
  have e : (stS late srcO srcO srcO 0 false 0 0).marked 0 srcO a = (stS late (srcM a) srcO srcO 0 false 1 0).moved := by
    rw [SCells.marked, clampT_id a h1 h2, stS_add _ _ _ _ _ _ _ _ (by omega) (by omega), srcO_raised]; rfl
  rw [e, stS_moved late _ _ _ _ a _ _ _ rfl, if_pos (.inl rfl)]
theorem stS_mark1 (late a b : Int) (h1 : -2305843009213693952 ≤ b) (h2 : b ≤ 2305843009213693952) : (stS late (srcM a) srcO srcO (a - late) true 1 0).marked 1 srcO b = stS late (srcM a) (srcM b) srcO (a - late) true 2 0 := by
  have e : (stS late (srcM a) srcO srcO (a - late) true 1 0).marked 1 srcO b = (stS late (srcM a) (srcM b) srcO (a - late) true 2 0).moved := by
    rw [SCells.marked, clampT_id b h1 h2, stS_add _ _ _ _ _ _ _ _ (by omega) (by omega), srcO_raised]; rfl
  by_cases hb : b < a
  · rw [e, stS_moved late _ _ _ _ b _ _ _ (by simp [leastF, leastStep, SSrc.zero, hb]), if_neg (by simp; omega)]
  · rw [e, stS_moved late _ _ _ _ a _ _ _ (by simp [leastF, leastStep, SSrc.zero, hb]), if_neg (by simp)]
def maxZ (a b : Int) : Int := if b > a then b else a
theorem stS_mark2 (late a b : Int) (v : Value) (h1 : b ≤ 2305843009213693952) (h2 : a ≤ 2305843009213693952) : (stS late (srcM a) (srcM b) ⟨true, false, v, 0, false⟩ (a - late) true 2 0).marked 0 (srcM a) 2305843009213693952 = stS late (srcM 2305843009213693952) (srcM b) ⟨true, false, v, 0, false⟩ (maxZ a b - late) true 3 0 := by
  have e : (stS late (srcM a) (srcM b) ⟨true, false, v, 0, false⟩ (a - late) true 2 0).marked 0 (srcM a) 2305843009213693952 = (stS late (srcM 2305843009213693952) (srcM b) ⟨true, false, v, 0, false⟩ (a - late) true 3 0).moved := by
    rw [SCells.marked, clampT_id _ (by omega) (by omega), stS_add _ _ _ _ _ _ _ _ (by omega) (by omega)]
    by_cases ha : a < 2305843009213693952
    · rw [SSrc.raised, if_pos (.inr ha)]; rfl
    · have : a = 2305843009213693952 := by omega
      subst this
      rw [SSrc.raised, if_neg (by simp)]; rfl
  rw [e, stS_moved late _ _ _ _ b _ _ _ (by
    by_cases hb : b < 2305843009213693952
    · simp [leastF, leastStep, SSrc.zero, hb]
    · have : b = 2305843009213693952 := by omega
      subst this; simp [leastF, leastStep, SSrc.zero])]
  unfold maxZ
  by_cases hab : b > a
  · rw [if_pos (.inr (by omega)), if_pos hab]
  · rw [if_neg (by simp; omega), if_neg hab]
theorem stS_end (late a b : Int) (s1 : SSrc) (v : Value) (k : Int) (hs : s1.is = false) (h1 : b ≤ 2305843009213693952) (h2 : a ≤ 2305843009213693952) : (stS late (srcM 2305843009213693952) s1 ⟨true, false, v, 0, false⟩ (maxZ a b - late) true 3 k).moved = stS late (srcM 2305843009213693952) s1 ⟨true, false, v, 0, false⟩ (2305843009213693952 - late) true 3 k := by
  rw [stS_moved late _ _ _ _ 2305843009213693952 _ _ _ (by simp [leastF, leastStep, SSrc.zero, hs])]
  have hm : maxZ a b ≤ 2305843009213693952 := by unfold maxZ; split <;> omega
  by_cases hlt : maxZ a b < 2305843009213693952
  · rw [if_pos (.inr (by omega))]
  · have : maxZ a b = 2305843009213693952 := by omega
    rw [if_neg (by simp; omega), this]

end Go.Proofs.Ytcfngdnmpogaoaa
