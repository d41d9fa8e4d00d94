/-
  The statement Slowest, walked.
-/
import Derived.Test.YtcfngdnmpogaoaaSKeep
import Derived.Deep.CutRange
namespace Go.Proofs.Ytcfngdnmpogaoaa
open Go.RowKit Go.MuLone

/-- What lies in memory while Slowest is played. -/
structure SI (w : World) (g : Nat) (late : Int) (W : World) (r : SCells) : Prop where
  sf : SF W g r
  box : W.heap[w.heap.size]? = some (.cells #[.int .i64 10, .int .i64 10, .int .i64 late, .int .i64 2] 24 (0, 0))
  below : Below w.heap.size w W
  hg : w.heap.size < g

theorem SI.late {w W : World} {g : Nat} {late : Int} {r : SCells} (h : SI w g late W r) : W.cell? ⟨w.heap.size, 2, none⟩ = some (.int .i64 late) := by simp [World.cell?, h.box]
theorem SI.kept {w W W' : World} {g : Nat} {late : Int} {r r' : SCells} (h : SI w g late W r) (hk : Kept (fun k => k = g) W W') (hs : SF W' g r') : SI w g late W' r' := by
  have hg := h.hg
  refine ⟨hs, ?_, h.below.trans (hk.toBelow h.below.size (fun k hk e => by omega)), h.hg⟩
  rw [hk.block _ (Array.getElem?_eq_some_iff.1 h.box).1 (fun e => by omega)]; exact h.box
theorem SI.grew {w W W' : World} {g : Nat} {late : Int} {r : SCells} (h : SI w g late W r) (hb : Below W.heap.size W W') : SI w g late W' r := by
  refine ⟨h.sf.below hb h.sf.lt, ?_, h.below.trans (hb.mono h.below.size), h.hg⟩
  rw [hb.block _ (Array.getElem?_eq_some_iff.1 h.box).1]; exact h.box

theorem conf_slow (late : Int) (h0 : 0 ≤ late) (h1 : late < 1000) : isConf 10 10 late 2 := by
  unfold isConf
  have : (10 : Int) / ((Nat.gcd (10 : Int).toNat (10 : Int).toNat : Nat) : Int) = 1 := by decide
  rw [this]
  omega

theorem line_st {w W : World} {g : Nat} {late : Int} {s0 s1 s2 : SSrc} {lt : Int} {li : Bool} {m k : Int} (h : SI w g late W (stS late s0 s1 s2 lt li m k)) :
    Calls Try.prog 6 #[.pointer (some ⟨g, 0, none⟩)] W fun e W' => e = .returned (.tuple #[.int .i64 lt, .bool li]) ∧ SI w g late W' (stS late s0 s1 s2 lt li m k) := by
  refine (line_any g _ W h.sf rfl).mono ?_
  rintro e W' ⟨rfl, h1, k1⟩
  exact ⟨rfl, h.kept k1 h1⟩
theorem counts_st {w W : World} {g : Nat} {late : Int} {s0 s1 s2 : SSrc} {lt : Int} {li : Bool} {m k : Int} (h : SI w g late W (stS late s0 s1 s2 lt li m k)) :
    Calls Try.prog 11 #[.pointer (some ⟨g, 0, none⟩)] W fun e W' => e = .returned (.agg #[.int .i64 0, .int .i64 0, .int .i64 0, .int .i64 0, .int .i64 m, .int .i64 k]) ∧ SI w g late W' (stS late s0 s1 s2 lt li m k) := by
  refine (counts_any g _ W h.sf rfl).mono ?_
  rintro e W' ⟨rfl, h1, k1⟩
  exact ⟨rfl, h.kept k1 h1⟩
theorem Row.first {w : World} {e : TypeId} {g off n cap : Nat} {xs : List Value} (h : Row w e 1 (.slice (some ⟨g, off, none⟩) n cap) xs) (k : Nat) (hk : k ≤ n) : Row w e 1 (.slice (some ⟨g, off, none⟩) k cap) (xs.take k) := by
  rcases h with ⟨h, _⟩ | ⟨g', off', n', cap', cur, hv, hg, h1, h2, h3, h4, h5⟩
  · simp at h
  · simp only [Value.slice.injEq, Option.some.injEq, Addr.mk.injEq] at hv
    obtain ⟨⟨rfl, rfl, _⟩, rfl, rfl⟩ := hv
    refine .inr ⟨g, off, k, cap, cur, rfl, hg, by omega, h2, h3, by simp; omega, fun j hj => ?_⟩
    rw [List.getElem?_take, if_pos (by omega)]
    exact h5 j (by omega)

set_option maxRecDepth 40000 in
set_option maxHeartbeats 12800000 in
theorem slowest_walk (a0 b0 l0 : Int) (br : Bool) (w : World) (ha1 : -9223372036854775808 ≤ a0) (ha2 : a0 ≤ 9223372036854775807) (hb1 : -9223372036854775808 ≤ b0) (hb2 : b0 ≤ 9223372036854775807) (hl1 : -9223372036854775808 ≤ l0) (hl2 : l0 ≤ 9223372036854775807) :
    Calls Try.prog 3 #[.int .i64 a0, .int .i64 b0, .int .i64 l0, .bool br] w fun e w' => e = .returned (.bool true) ∧ Below w.heap.size w w' := by
  have hp := pick_any l0 1000 w hl1 hl2 (by omega) (by omega)
  have hpl := pickZ_lt l0 1000 (by omega)
  generalize pickZ l0 1000 = late at *
  have HC : Hid (isConf 10 10 late 2) := conf_slow late hpl.1 hpl.2
  go_enter Try.func3, Try.ntmps3
  go_wp2_with fail
  refine hp.mono ?_
  rintro e w ⟨rfl, rfl⟩
  clear hp
  go_wp2_with fail
  refine (flow_any 10 10 late 2 _ HC.out).mono ?_
  rintro e W1 ⟨g, hg, rfl, hsf, hb⟩
  have HI : Hid (SI w g late W1 (stS late srcO SSrc.zero SSrc.zero 0 false 0 0)) := by
    have hbx := heap_alloc_new w (.cells #[.int .i64 10, .int .i64 10, .int .i64 late, .int .i64 2] 24)
    have hba : Below w.heap.size w (w.alloc (.cells #[.int .i64 10, .int .i64 10, .int .i64 late, .int .i64 2] 24)) := (Below.refl _ w).alloc (Nat.le_refl _) _
    simp at hg
    refine ⟨hsf, ?_, hba.trans (hb.mono (by simp)), by omega⟩
    rw [hb.block _ (by simp)]; exact hbx
  clear hsf hb hg
  go_upto_region 5 with fail
  go_cut [40] from 35 to 42 (fun s wx => s = .bool (decide (a0 < -2305843009213693952 ∨ 2305843009213693952 < a0)) ∧ wx = W1)
  case first =>
    go_wp2
    all_goals go_meet
    all_goals (refine ⟨congrArg Value.bool ?_, rfl⟩; simp; try omega)
  case rest =>
    obtain ⟨rfl, rfl⟩ := hcut
    go_upto_if 40 with fail
    go_cut [0] from 35 to 42 (fun s wx => ∃ a : Int, s = .int .i64 a ∧ Hid (-2305843009213693952 ≤ a) ∧ Hid (a ≤ 2305843009213693952) ∧ wx = wc)
    case first =>
      by_cases hc : a0 < -2305843009213693952 ∨ 2305843009213693952 < a0
      · have hm := Int.tmod_lt_of_pos a0 (show (0 : Int) < 1000 by decide)
        have hm2 : -1000 < a0.tmod 1000 := Int.lt_tmod_of_pos a0 (by decide)
        have e2 : IntKind.i64.wrap (a0.tmod 1000) = a0.tmod 1000 := by rw [IntKind.wrap_i64]; omega
        have hd : decide (a0 < -2305843009213693952 ∨ 2305843009213693952 < a0) = true := decide_eq_true hc
        rw [hd]
        go_wp2
        go_meet
        exact ⟨a0.tmod 1000, rfl, by show _ ≤ _; omega, by show _ ≤ _; omega, rfl⟩
      · have hd : decide (a0 < -2305843009213693952 ∨ 2305843009213693952 < a0) = false := decide_eq_false hc
        rw [hd]
        go_wp2
        go_meet
        exact ⟨a0, rfl, by show _ ≤ _; omega, by show _ ≤ _; omega, rfl⟩
    case rest =>
      obtain ⟨a, rfl, hA1, hA2, rfl⟩ := hcut
      clear ha1 ha2
      go_upto_region 7 with fail
      go_cut [48] from 43 to 50 (fun s wx => s = .bool (decide (b0 < -2305843009213693952 ∨ 2305843009213693952 < b0)) ∧ wx = wc)
      case first =>
        go_wp2
        all_goals go_meet
        all_goals (refine ⟨congrArg Value.bool ?_, rfl⟩; simp; try omega)
      case rest =>
        obtain ⟨rfl, rfl⟩ := hcut
        go_upto_if 48 with fail
        go_cut [1] from 43 to 50 (fun s wx => ∃ b : Int, s = .int .i64 b ∧ Hid (-2305843009213693952 ≤ b) ∧ Hid (b ≤ 2305843009213693952) ∧ wx = wc)
        case first =>
          by_cases hc : b0 < -2305843009213693952 ∨ 2305843009213693952 < b0
          · have hm := Int.tmod_lt_of_pos b0 (show (0 : Int) < 1000 by decide)
            have hm2 : -1000 < b0.tmod 1000 := Int.lt_tmod_of_pos b0 (by decide)
            have e2 : IntKind.i64.wrap (b0.tmod 1000) = b0.tmod 1000 := by rw [IntKind.wrap_i64]; omega
            have hd : decide (b0 < -2305843009213693952 ∨ 2305843009213693952 < b0) = true := decide_eq_true hc
            rw [hd]
            go_wp2
            go_meet
            exact ⟨b0.tmod 1000, rfl, by show _ ≤ _; omega, by show _ ≤ _; omega, rfl⟩
          · have hd : decide (b0 < -2305843009213693952 ∨ 2305843009213693952 < b0) = false := decide_eq_false hc
            rw [hd]
            go_wp2
            go_meet
            exact ⟨b0, rfl, by show _ ≤ _; omega, by show _ ≤ _; omega, rfl⟩
        case rest =>
          obtain ⟨b, rfl, hB1, hB2, rfl⟩ := hcut
          clear hb1 hb2 hl1 hl2 HC
          have HL : Hid (0 ≤ late ∧ late < 1000) := hpl
          clear hpl
          go_wp2_with fail
          refine (line_st HI.out).mono ?_
          rintro e V1 ⟨rfl, h⟩
          have I1 : Hid (SI w g late V1 (stS late srcO SSrc.zero SSrc.zero 0 false 0 0)) := h
          clear h HI
          go_wp2_with fail
          refine (open_yes g 1 _ SSrc.zero _ I1.out.sf rfl rfl rfl).mono ?_
          rintro e V2 ⟨rfl, h, k⟩
          have I2 : Hid (SI w g late V2 (stS late srcO srcO SSrc.zero 0 false 0 0)) := I1.out.kept k h
          clear h k I1
          go_wp2_with fail
          refine (open_yes g 2 _ SSrc.zero _ I2.out.sf rfl rfl rfl).mono ?_
          rintro e V3 ⟨rfl, h, k⟩
          have I3 : Hid (SI w g late V3 (stS late srcO srcO srcO 0 false 0 0)) := I2.out.kept k h
          clear h k I2
          go_wp2_with fail
          refine (mark_any a _).mono ?_
          rintro e V4 ⟨v4, rfl, r4, -, b4⟩
          have I4 : Hid (SI w g late V4 (stS late srcO srcO srcO 0 false 0 0)) := I3.out.grew b4
          have R4 : Hid (Row V4 5 1 v4 ((markB a).map byteV)) := r4
          clear r4 b4 I3
          go_wp2_with fail
          refine (feed_mark g 0 _ srcO a v4 V4 I4.out.sf rfl rfl (stS_fits late _ _ _ _ _ _ _ (by have := HL.out; omega) (by simp) (by simp) (by simp)) rfl rfl rfl rfl (by have := hA1.out; omega) (by have := hA2.out; omega) R4.out).mono ?_
          rintro e V5 ⟨rfl, h, k⟩
          have I5 : Hid (SI w g late V5 (stS late (srcM a) srcO srcO (a - late) true 1 0)) := by
            rw [stS_mark0 late a hA1.out hA2.out] at h
            exact I4.out.kept k h
          clear h k I4 R4
          go_wp2_with fail
          refine (line_st I5.out).mono ?_
          rintro e V6 ⟨rfl, h⟩
          have I6 : Hid (SI w g late V6 (stS late (srcM a) srcO srcO (a - late) true 1 0)) := h
          clear h I5
          go_wp2_with fail
          refine (mark_any b _).mono ?_
          rintro e V7 ⟨v7, rfl, r4, -, b4⟩
          have I7 : Hid (SI w g late V7 (stS late (srcM a) srcO srcO (a - late) true 1 0)) := I6.out.grew b4
          have R7 : Hid (Row V7 5 1 v7 ((markB b).map byteV)) := r4
          clear r4 b4 I6
          go_wp2_with fail
          refine (feed_mark g 1 _ srcO b v7 V7 I7.out.sf rfl rfl (stS_fits late _ _ _ _ _ _ _ (by have := HL.out; omega) ⟨hA1.out, hA2.out⟩ (by simp) (by simp)) rfl rfl rfl rfl (by have := hB1.out; omega) (by have := hB2.out; omega) R7.out).mono ?_
          rintro e V8 ⟨rfl, h, k⟩
          have I8 : Hid (SI w g late V8 (stS late (srcM a) (srcM b) srcO (a - late) true 2 0)) := by
            rw [stS_mark1 late a b hB1.out hB2.out] at h
            exact I7.out.kept k h
          clear h k I7 R7
          go_wp2_with fail
          refine (line_st I8.out).mono ?_
          rintro e V9 ⟨rfl, h⟩
          have I9 : Hid (SI w g late V9 (stS late (srcM a) (srcM b) srcO (a - late) true 2 0)) := h
          clear h I8
          go_wp2_with fail
          refine (mark_any a _).mono ?_
          rintro e V10 ⟨v10, rfl, r4, -, b4⟩
          have I10 : Hid (SI w g late V10 (stS late (srcM a) (srcM b) srcO (a - late) true 2 0)) := I9.out.grew b4
          have hml : 12 ≤ (markB a).length := by
            have h2 := frame_len (time := a) item_mark2
            have h3 := itemBody_len (time := a) item_mark2
            show 12 ≤ (frameBytes 2 ⟨#[]⟩ a 0 0).length
            omega
          obtain ⟨g10, o10, n10, c10, hv10, hn10, hc10⟩ := r4.shape (by intro hh; have := congrArg List.length hh; simp at this; rw [this] at hml; simp at hml)
          subst hv10
          rw [List.length_map, Nat.mul_one] at hn10
          have R10 : Hid (Row V10 5 1 (.slice (some ⟨g10, o10, none⟩) 5 c10) (((markB a).take 5).map byteV)) := by
            have := r4.first 5 (by omega)
            rw [← List.map_take] at this; exact this
          have HS : Hid (unfShort ((markB a).take 5) = true) := unf_fewer item_mark2 5 (by show 5 < (markB a).length; omega)
          have h5n : 5 ≤ n10 := by omega
          have h5c : 5 ≤ c10 := by omega
          clear r4 b4 I9 hml hn10 hc10
          go_wp2_with fail
          refine (feed_few g 2 _ srcO ((markB a).take 5) _ V10 I10.out.sf rfl rfl rfl rfl rfl HS.out (by simp; omega) R10.out).mono ?_
          rintro e V11 ⟨rfl, ⟨v11, h⟩, k⟩
          have I11 : Hid (SI w g late V11 (stS late (srcM a) (srcM b) ⟨true, false, v11, 0, false⟩ (a - late) true 2 0)) := I10.out.kept k h
          clear h k I10 R10 HS
          go_upto_if 93 with fail
          go_cut [21] from 90 to 94 (fun s wx => ∃ m : Int, s = .int .i64 m ∧ Hid (m ≤ maxZ a b) ∧ wx = V11)
          case first =>
            by_cases hba : b < a
            · go_wp2
              go_meet
              exact ⟨b, rfl, by show _ ≤ _; unfold maxZ; split <;> omega, rfl⟩
            · go_wp2
              go_meet
              exact ⟨a, rfl, by show _ ≤ _; unfold maxZ; split <;> omega, rfl⟩
          case rest =>
            obtain ⟨m, rfl, hM, rfl⟩ := hcut
            have cl : wc.cell? ⟨w.heap.size, 2, none⟩ = some (.int .i64 late) := I11.out.late
            have e1 : wrap64 (a - late) = a - late := by have := HL.out; have := hA1.out; have := hA2.out; unfold wrap64; omega
            go_wp2_with fail
            refine (mark_any 2305843009213693952 _).mono ?_
            rintro e V12 ⟨v12, rfl, r4, -, b4⟩
            have I12 : Hid (SI w g late V12 (stS late (srcM a) (srcM b) ⟨true, false, v11, 0, false⟩ (a - late) true 2 0)) := I11.out.grew b4
            have R12 : Hid (Row V12 5 1 v12 ((markB 2305843009213693952).map byteV)) := r4
            clear r4 b4 I11 cl e1
            go_wp2_with fail
            refine (feed_mark g 0 _ (srcM a) 2305843009213693952 v12 V12 I12.out.sf rfl rfl (stS_fits late _ _ _ _ _ _ _ (by have := HL.out; omega) ⟨hA1.out, hA2.out⟩ ⟨hB1.out, hB2.out⟩ (by simp)) rfl rfl rfl rfl (by decide) (by decide) R12.out).mono ?_
            rintro e V13 ⟨rfl, h, k⟩
            have I13 : Hid (SI w g late V13 (stS late (srcM 2305843009213693952) (srcM b) ⟨true, false, v11, 0, false⟩ (maxZ a b - late) true 3 0)) := by
              rw [stS_mark2 late a b v11 hB2.out hA2.out] at h
              exact I12.out.kept k h
            clear h k I12 R12
            go_wp2_with fail
            refine (line_st I13.out).mono ?_
            rintro e V14 ⟨rfl, h⟩
            have I14 : Hid (SI w g late V14 (stS late (srcM 2305843009213693952) (srcM b) ⟨true, false, v11, 0, false⟩ (maxZ a b - late) true 3 0)) := h
            clear h I13
            go_upto_if 147 with fail
            go_cut [24] from 144 to 148 (fun s wx => s = .int .i64 (maxZ a b) ∧ wx = V14)
            case first =>
              by_cases hab : a < b
              · have hx : Hid (maxZ a b = b) := by show _ = _; unfold maxZ; rw [if_pos hab]
                go_wp2
                go_meet
                exact ⟨by rw [hx.out], rfl⟩
              · have hx : Hid (maxZ a b = a) := by show _ = _; unfold maxZ; rw [if_neg hab]
                go_wp2
                go_meet
                exact ⟨by rw [hx.out], rfl⟩
            case rest =>
              obtain ⟨rfl, rfl⟩ := hcut
              have hmx : Hid (-2305843009213693952 ≤ maxZ a b ∧ maxZ a b ≤ 2305843009213693952) := by
                have := hA1.out; have := hA2.out; have := hB1.out; have := hB2.out
                show _ ∧ _
                unfold maxZ; split <;> omega
              have HE : Hid (∀ s1 k, s1.is = false → (stS late (srcM 2305843009213693952) s1 ⟨true, false, v11, 0, false⟩ (maxZ a b - late) true 3 k).moved = stS late (srcM 2305843009213693952) s1 ⟨true, false, v11, 0, false⟩ (2305843009213693952 - late) true 3 k) := fun s1 k hs => stS_end late a b s1 v11 k hs hB2.out hA2.out
              generalize maxZ a b = X at *
              have cl : wc.cell? ⟨w.heap.size, 2, none⟩ = some (.int .i64 late) := I14.out.late
              have e1 : wrap64 (X - late) = X - late := by have := HL.out; have := hmx.out; unfold wrap64; omega
              have hMX : ¬ X < m := by have := hM.out; omega
              go_upto_if 160 with fail
              go_cut [160] from 160 to 165 (fun _ wx => ∃ s1 : SSrc, SI w g late wx (stS late (srcM 2305843009213693952) s1 ⟨true, false, v11, 0, false⟩ (2305843009213693952 - late) true 3 (if br then 1 else 0)))
              case first =>
                clear cl e1 hMX
                cases br with
                | true =>
                  go_wp2_with fail
                  have I15 : Hid (SI w g late (wc.alloc (.cells #[.int .u8 0, .int .u8 0, .int .u8 0] 5)) (stS late (srcM 2305843009213693952) (srcM b) ⟨true, false, v11, 0, false⟩ (X - late) true 3 0)) := I14.out.grew ((Below.refl _ wc).alloc (Nat.le_refl _) _)
                  have R15 : Hid (Row (wc.alloc (.cells #[.int .u8 0, .int .u8 0, .int .u8 0] 5)) 5 1 (.slice (some ⟨wc.heap.size, 0, none⟩) 3 3) (([0, 0, 0] : List UInt8).map byteV)) := Row.lit wc 5 [.int .u8 0, .int .u8 0, .int .u8 0] wc.heap.size 3 rfl rfl (by decide)
                  refine (feed_bad g 1 _ (srcM b) [0, 0, 0] _ _ I15.out.sf rfl rfl (stS_fits late _ _ _ _ _ _ _ (by have := HL.out; omega) (by decide) ⟨hB1.out, hB2.out⟩ (by simp)) rfl rfl rfl rfl (by decide) (by decide) (by decide) R15.out).mono ?_
                  rintro e V15 ⟨rfl, h, k⟩
                  have I16 : Hid (SI w g late V15 (stS late (srcM 2305843009213693952) SSrc.gone ⟨true, false, v11, 0, false⟩ (2305843009213693952 - late) true 3 1)) := by
                    have h1 := HE.out SSrc.gone 1 rfl
                    have h2 := stS_addB late (srcM 2305843009213693952) SSrc.gone ⟨true, false, v11, 0, false⟩ (X - late) true 3
                    exact I15.out.kept k (by rw [← h1, ← h2]; exact h)
                  clear h k
                  go_wp2
                  go_meet
                  exact ⟨SSrc.gone, I16.out⟩
                | false =>
                  go_wp2_with fail
                  refine (close_nil g 1 _ (srcM b) _ I14.out.sf rfl rfl (stS_fits late _ _ _ _ _ _ _ (by have := HL.out; omega) (by decide) ⟨hB1.out, hB2.out⟩ (by simp)) rfl rfl).mono ?_
                  rintro e V15 ⟨rfl, h, k⟩
                  have I15 : Hid (SI w g late V15 (stS late (srcM 2305843009213693952) SSrc.zero ⟨true, false, v11, 0, false⟩ (2305843009213693952 - late) true 3 0)) := by
                    have := HE.out SSrc.zero 0 rfl
                    exact I14.out.kept k (by rw [← this]; exact h)
                  clear h k
                  go_wp2
                  go_meet
                  exact ⟨SSrc.zero, I15.out⟩
              case rest =>
                obtain ⟨s1, hI⟩ := hcut
                have J1 : Hid (SI w g late wc (stS late (srcM 2305843009213693952) s1 ⟨true, false, v11, 0, false⟩ (2305843009213693952 - late) true 3 (if br then 1 else 0))) := hI
                clear hI cl e1 hMX I14
                obtain ⟨kb, HK⟩ : ∃ kb : Int, Hid ((if br then 1 else 0 : Int) = kb) := ⟨_, rfl⟩
                rw [HK.out] at J1
                go_wp2_with fail
                refine (line_st J1.out).mono ?_
                rintro e V16 ⟨rfl, h⟩
                have J2 : Hid (SI w g late V16 (stS late (srcM 2305843009213693952) s1 ⟨true, false, v11, 0, false⟩ (2305843009213693952 - late) true 3 kb)) := h
                clear h J1
                go_wp2_with fail
                refine (counts_st J2.out).mono ?_
                rintro e V17 ⟨rfl, h⟩
                have J3 : Hid (SI w g late V17 (stS late (srcM 2305843009213693952) s1 ⟨true, false, v11, 0, false⟩ (2305843009213693952 - late) true 3 kb)) := h
                have cl : V17.cell? ⟨w.heap.size, 2, none⟩ = some (.int .i64 late) := h.late
                have hsz : w.heap.size < V17.heap.size := (Array.getElem?_eq_some_iff.1 h.box).1
                have e1 : wrap64 (2305843009213693952 - late) = 2305843009213693952 - late := by have := HL.out; unfold wrap64; omega
                clear h J2
                cases br with
                | true =>
                  have hk : kb = 1 := by rw [← HK.out]; rfl
                  subst hk
                  go_wp2
                  go_ret
                  exact ⟨rfl, J3.out.below.alloc J3.out.below.size _⟩
                | false =>
                  have hk : kb = 0 := by rw [← HK.out]; rfl
                  subst hk
                  go_wp2
                  go_ret
                  exact ⟨rfl, J3.out.below.alloc J3.out.below.size _⟩
end Go.Proofs.Ytcfngdnmpogaoaa
