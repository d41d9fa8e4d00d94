import Derived.Test.YtcfngdnmpogaoaaGreatLinesUptoT14
import Derived.Lib.SliceRun
import Derived.Test.YtcfngdnmpogaoaaGreatLinesUptoT12
import Derived.Test.YtcfngdnmpogaoaaGreatLinesUptoT10
import Derived.Test.YtcfngdnmpogaoaaGreatLinesUptoT11
import Derived.Test.YtcfngdnmpogaoaaGreatLinesUptoT03

/-
  slices.DeleteFunc of the runs that have ended.
-/
namespace Go.Proofs.YtcfngdnmpogaoaaGreat
open Go.RowKit Go.MuLone

/-- Half way: what stays of the first j stands at the front; the others are as they were. -/
structure DInv (w wr : World) (g o n c : Nat) (Rs : List Nat) (q : Nat → Bool) (i j : Nat) : Prop where
  kept : Kept (fun k => k = g) w wr
  row : ∃ cur, wr.heap[g]? = some (.cells cur 150 (0, 0)) ∧ o + c ≤ cur.size ∧ (∀ (t R : Nat), ((Rs.take j).filter fun R => !q R)[t]? = some R → cur[o + t]? = some (.pointer (some ⟨R, 0, none⟩))) ∧ (∀ (t R : Nat), j ≤ t → Rs[t]? = some R → cur[o + t]? = some (.pointer (some ⟨R, 0, none⟩)))
  len : ((Rs.take j).filter fun R => !q R).length = i
  lt : i < j
  le : j ≤ n

theorem filter_take_succ (Rs : List Nat) (p : Nat → Bool) (j R : Nat) (h : Rs[j]? = some R) : (Rs.take (j + 1)).filter p = (Rs.take j).filter p ++ (if p R then [R] else []) := by
  have hj : j < Rs.length := (List.getElem?_eq_some_iff.1 h).1
  have e : Rs[j] = R := (List.getElem?_eq_some_iff.1 h).2
  rw [List.take_succ_eq_append_getElem hj, e, List.filter_append]
  congr 1
  cases hp : p R <;> simp [hp]

set_option maxRecDepth 20000 in
set_option maxHeartbeats 3200000 in
theorem deleteFunc_any (B : Nat) (Rs : List Nat) (q : Nat → Bool) (sv : Value) (w : World) (hrow : Row w 150 1 sv (runPtrs Rs)) (hlen : Rs.length ≤ 4611686018427387904)
    (hf : ∀ (W : World) (R : Nat), R ∈ Rs → Kept (fun k => sv.ownBlock = some k) w W → Calls Tryz.prog 142 #[.pointer (some ⟨R, 0, none⟩), .pointer (some ⟨B, 0, none⟩)] W fun e w' => e = .returned (.bool (q R)) ∧ ∃ m, w' = W.drewN m) :
    Calls Tryz.prog 143 #[sv, .func (.func 142) #[] #[.pointer (some ⟨B, 0, none⟩)]] w fun e w' => ∃ v, e = .returned v ∧ Row w' 150 1 v (runPtrs (Rs.filter fun R => !q R)) ∧ (∀ k, v.ownBlock = some k → sv.ownBlock = some k) ∧ Kept (fun k => sv.ownBlock = some k) w w' := by
  have hI := indexFunc_E B Rs q sv w hrow hlen (fun m R hR => (hf (w.drewN m) R hR ((Kept.refl _ w).drewN m)).mono (by
    rintro e w' ⟨rfl, m', rfl⟩
    exact ⟨rfl, m + m', by simp⟩))
  have HF : Hid (∀ (W : World) (R : Nat), R ∈ Rs → Kept (fun k => sv.ownBlock = some k) w W → Calls Tryz.prog 142 #[.pointer (some ⟨R, 0, none⟩), .pointer (some ⟨B, 0, none⟩)] W fun e w' => e = .returned (.bool (q R)) ∧ ∃ m, w' = W.drewN m) := hf
  have HROW : Hid (Row w 150 1 sv (runPtrs Rs)) := hrow
  clear hf
  obtain ⟨sa, sc, hsv, hsc⟩ := hrow.slice
  rw [runPtrs_len] at hsv hsc
  clear hrow
  subst hsv
  go_enter Tryz.func143, Tryz.ntmps143
  go_wp2_with fail
  refine hI.mono ?_
  rintro e W ⟨hcase, m, hW⟩
  have HW : Hid (W = w.drewN m) := hW
  clear hW hI
  rcases hcase with ⟨i, rfl, ⟨R0, hR0, hq0⟩, hbefore⟩ | ⟨rfl, hall⟩
  · have hin : i < Rs.length := (List.getElem?_eq_some_iff.1 hR0).1
    obtain ⟨g, o, n, c, hv, -, -⟩ := HROW.out.shape (by intro e; have := runPtrs_len Rs; rw [e] at this; simp at this; omega)
    simp only [Value.slice.injEq] at hv
    obtain ⟨rfl, rfl, rfl⟩ := hv
    obtain ⟨cur, hg, hcm, hcs, hcell⟩ : ∃ cur, w.heap[g]? = some (.cells cur 150 (0, 0)) ∧ sc ≤ maxLen ∧ o + sc ≤ cur.size ∧ ∀ (t R : Nat), Rs[t]? = some R → cur[o + t]? = some (.pointer (some ⟨R, 0, none⟩)) := by
      rcases HROW.out with ⟨h, _⟩ | ⟨g', off', n', cap', cur, hv, hg, h0, h2, h3, h4, h5⟩
      · simp at h
      · simp only [Value.slice.injEq, Option.some.injEq, Addr.mk.injEq] at hv
        obtain ⟨⟨rfl, rfl, _⟩, rfl, rfl⟩ := hv
        refine ⟨cur, hg, h2, by omega, fun t R ht => ?_⟩
        rw [h5 t (by have := (List.getElem?_eq_some_iff.1 ht).1; omega), runPtrs, List.getElem?_map, ht]; rfl
    unfold maxLen at hcm
    have hpre : (Rs.take i).filter (fun R => !q R) = Rs.take i := by
      rw [List.filter_eq_self]
      intro R hR
      obtain ⟨t, ht, e⟩ := List.mem_iff_getElem.1 hR
      have ht' : t < i := by rw [List.length_take] at ht; omega
      rw [List.getElem_take] at e
      have := hbefore t R ht' (by rw [← e]; exact List.getElem?_eq_getElem (by omega))
      rw [this]; rfl
    have hstart : Hid (DInv w W g o Rs.length sc Rs q i (i + 1)) := by
      refine ⟨by rw [HW.out]; exact (Kept.refl _ w).drewN m, ⟨cur, by rw [HW.out]; simpa using hg, hcs, fun t R ht => ?_, fun t R _ ht => hcell t R ht⟩, ?_, by omega, by omega⟩
      · rw [filter_take_succ Rs _ i R0 hR0, hpre, hq0] at ht
        simp only [Bool.not_true, Bool.false_eq_true, if_false, List.append_nil] at ht
        rw [List.getElem?_take] at ht
        split at ht
        · exact hcell t R ht
        · cases ht
      · rw [filter_take_succ Rs _ i R0 hR0, hpre, hq0]
        simp
        omega
    have hwi : IntKind.i64.wrap ((i : Int) + 1) = (i : Int) + 1 := by rw [IntKind.wrap_i64]; omega
    have hne1 : ((i : Int) == -1) = false := by rw [beq_eq_false_iff_ne]; omega
    clear hcell hg hcs hpre hbefore hR0 hq0 HW
    go_wp2
    go_loopw [5, 6] (fun si sj wr => ∃ i j : Nat, si = .int .i64 (i : Int) ∧ sj = .int .i64 (j : Int) ∧ DInv w wr g o Rs.length sc Rs q i j) (fun _ sj _ => Rs.length - (intOf sj).toNat)
    case atStart => exact ⟨i, i + 1, rfl, by go_num, hstart.out⟩
    case round =>
      clear hstart hin hwi hne1
      obtain ⟨i, j, rfl, rfl, hD⟩ := hrel
      have hij := hD.lt
      have hjn := hD.le
      have HD : Hid (DInv w wr g o Rs.length sc Rs q i j) := hD
      clear hD
      by_cases hlt : j < Rs.length
      · have ht : Rs[j]? = some Rs[j] := List.getElem?_eq_getElem hlt
        obtain ⟨cur, hg, hcs, hfr, hbk⟩ := HD.out.row
        have c0 : wr.cell? ⟨g, o + j, none⟩ = some (.pointer (some ⟨Rs[j], 0, none⟩)) := by rw [cell_of_row wr _ _ cur _ (0, 0) hg]; exact hbk j _ (Nat.le_refl _) ht
        have hq := HF.out wr Rs[j] (by simp) (HD.out.kept.mono (fun k _ h => by rw [h]; rfl))
        generalize hRj : Rs[j] = R at *
        have HT : Hid (Rs[j]? = some R) := ht
        have hci : wr.cell? ⟨g, o + i, none⟩ = some (cur[o + i]'(by omega)) := by rw [cell_of_row wr _ _ cur _ (0, 0) hg, Array.getElem?_eq_getElem (by omega)]
        have hfz : wr.frozen? ⟨g, o + i, none⟩ = false := frozen_of_row wr _ _ cur _ hg
        clear ht hRj hfr hbk
        have hjn' : (j : Int) < (Rs.length : Int) := by omega
        have hin' : (i : Int) < (Rs.length : Int) := by omega
        have hwj : IntKind.i64.wrap ((j : Int) + 1) = (j : Int) + 1 := by rw [IntKind.wrap_i64]; omega
        have hwi : IntKind.i64.wrap ((i : Int) + 1) = (i : Int) + 1 := by rw [IntKind.wrap_i64]; omega
        cases hqR : q R with
        | true =>
          rw [hqR] at hq
          have HQ : Hid (q R = true) := hqR
          clear hqR
          go_wp2_with fail
          refine hq.mono ?_
          rintro e W2 ⟨rfl, m2, hW2⟩
          have HW2 : Hid (W2 = wr.drewN m2) := hW2
          clear hW2 hq c0 hci hfz
          go_wp2
          go_roundw
          case rel =>
            obtain ⟨cur, hg, hcs, hfr, hbk⟩ := HD.out.row
            refine ⟨i, j + 1, rfl, by go_num, ⟨by rw [HW2.out]; exact HD.out.kept.drewN m2, ⟨cur, by rw [HW2.out]; simpa using hg, hcs, fun t R' h' => ?_, fun t R' h1 h2 => hbk t R' (by omega) h2⟩, ?_, by omega, by omega⟩⟩
            · rw [filter_take_succ Rs _ j R HT.out, HQ.out] at h'
              simp only [Bool.not_true, Bool.false_eq_true, if_false, List.append_nil] at h'
              exact hfr t R' h'
            · rw [filter_take_succ Rs _ j R HT.out, HQ.out]
              simp only [Bool.not_true, Bool.false_eq_true, if_false, List.append_nil]
              exact HD.out.len
          case measure => simp [intOf]; omega
        | false =>
          rw [hqR] at hq
          have HQ : Hid (q R = false) := hqR
          clear hqR
          go_wp2_with fail
          refine hq.mono ?_
          rintro e W2 ⟨rfl, m2, hW2⟩
          have hci2 : W2.cell? ⟨g, o + i, none⟩ = some (cur[o + i]'(by omega)) := by rw [hW2, World.cell?_drewN]; exact hci
          have hfz2 : W2.frozen? ⟨g, o + i, none⟩ = false := by rw [hW2, World.frozen?_drewN]; exact hfz
          have HW2 : Hid (W2 = wr.drewN m2) := hW2
          clear hW2 hq c0 hci hfz
          go_wp2
          go_roundw
          case rel =>
            obtain ⟨cur, hg, hcs, hfr, hbk⟩ := HD.out.row
            have hg2 : W2.heap[g]? = some (.cells cur 150 (0, 0)) := by rw [HW2.out]; simpa using hg
            have hl := HD.out.len
            refine ⟨i + 1, j + 1, by go_num, by go_num, ⟨?_, ⟨_, heap_setCell_same W2 g (o + i) cur _ _ hg2, by simpa using hcs, fun t R' h' => ?_, fun t R' h1 h2 => ?_⟩, ?_, by omega, by omega⟩⟩
            · exact Kept.setCell (by rw [HW2.out]; exact HD.out.kept.drewN m2) ⟨g, o + i, none⟩ _ (fun _ => rfl)
            · rw [filter_take_succ Rs _ j R HT.out, HQ.out] at h'
              simp only [Bool.not_false, if_true] at h'
              rw [Array.getElem?_setIfInBounds]
              by_cases hti : t = i
              · subst hti
                rw [List.getElem?_append_right (by omega), hl] at h'
                simp at h'
                subst h'
                rw [if_pos rfl]; simp; omega
              · have htl : t < i := by
                  have := (List.getElem?_eq_some_iff.1 h').1
                  simp only [List.length_append, hl, List.length_cons, List.length_nil] at this
                  omega
                rw [List.getElem?_append_left (by omega)] at h'
                rw [if_neg (by omega)]
                exact hfr t R' h'
            · rw [Array.getElem?_setIfInBounds, if_neg (by omega)]
              exact hbk t R' (by omega) h2
            · rw [filter_take_succ Rs _ j R HT.out, HQ.out]
              simp only [Bool.not_false, if_true, List.length_append, hl, List.length_cons, List.length_nil]
          case measure => simp [intOf]; omega
      · have hje : j = Rs.length := by omega
        subst hje
        obtain ⟨cur, hg, hcs, hfr, hbk⟩ := HD.out.row
        have hl := HD.out.len
        rw [List.take_length] at hfr hl
        have hcl : ∀ ty, (Builtin.clear_ #[108] ty #[.slice (some ⟨g, o + i, none⟩) (Rs.length - i) (sc - i)]).run Tryz.prog wr = .ok (.tuple #[]) (wr.setCells g (o + i) (List.replicate (Rs.length - i) (.pointer none))) := fun ty =>
          Lib.run_clear_slice (P := Tryz.prog) wr 108 150 ty (.pointer none) Tryz.underlying108 Tryz.zeroValue150 rfl rfl g (o + i) (Rs.length - i) (sc - i) (by omega) (fun t ht => by rw [cell_of_row wr _ _ cur _ (0, 0) hg]; simp; omega) (fun t ht => frozen_of_row wr _ _ cur _ hg)
        obtain ⟨cur2, a1, a2, a3, -⟩ := setCells_same g 150 (List.replicate (Rs.length - i) (.pointer none)) (o + i) wr cur hg
        have K2 : Hid (Kept (fun k => k = g) w (wr.setCells g (o + i) (List.replicate (Rs.length - i) (.pointer none)))) := by
          obtain ⟨s1, s2, s3, s4⟩ := setCells_streams g (List.replicate (Rs.length - i) (.pointer none)) (o + i) wr
          exact HD.out.kept.trans ⟨s1, s2, s3, Nat.le_of_eq s4.symm, fun k _ hk => setCells_other g _ _ wr k hk⟩
        have R2 : Hid (Row (wr.setCells g (o + i) (List.replicate (Rs.length - i) (.pointer none))) 150 1 (.slice (some ⟨g, o, none⟩) i sc) (runPtrs (Rs.filter fun R => !q R))) := by
          refine .inr ⟨g, o, i, sc, cur2, rfl, a1, by omega, by unfold maxLen; omega, by omega, by rw [runPtrs_len, hl]; omega, fun t ht => ?_⟩
          rw [a3 _ (.inl (by omega)), runPtrs, List.getElem?_map]
          have htl : t < (Rs.filter fun R => !q R).length := by rw [hl]; omega
          rw [List.getElem?_eq_getElem htl]
          exact hfr t _ (List.getElem?_eq_getElem htl)
        obtain ⟨W3, HW3⟩ : ∃ W3, Hid (wr.setCells g (o + i) (List.replicate (Rs.length - i) (.pointer none)) = W3) := ⟨_, rfl⟩
        rw [HW3.out] at hcl K2 R2
        clear hfr hbk hg a1 a2 a3 hcs HD
        have hjn' : ¬ ((Rs.length : Int) < (Rs.length : Int)) := by omega
        have hi1 : (i : Int) ≤ (Rs.length : Int) := by omega
        have hi2 : i ≤ Rs.length := by omega
        have hic : ¬ (sc = i) := by omega
        have hic2 : (i : Int) ≤ (sc : Int) := by omega
        go_wp2_with (simp only [hcl])
        go_ret
        exact ⟨_, rfl, R2.out, fun k hk => hk, K2.out.mono (fun k _ h => by rw [h]; rfl)⟩
  · have hfil : (Rs.filter fun R => !q R) = Rs := by
      rw [List.filter_eq_self]
      intro R hR
      rw [hall R hR]; rfl
    have HFil : Hid ((Rs.filter fun R => !q R) = Rs) := hfil
    clear hall hfil
    go_wp2
    go_ret
    exact ⟨_, rfl, by rw [HFil.out]; exact HROW.out.congr (fun k _ => by rw [HW.out]; simp), fun k hk => hk, by rw [HW.out]; exact (Kept.refl _ w).drewN m⟩
end Go.Proofs.YtcfngdnmpogaoaaGreat

/-
  Panes by their windows: the comparison.
-/
namespace Go.Proofs.YtcfngdnmpogaoaaGreat
open Go.RowKit Go.MuLone

def cmpI (x y : Int) : Int := if x < y then -1 else if y < x then 1 else 0
theorem cmpI_cases (x y : Int) : (x < y ∧ cmpI x y = -1) ∨ (x = y ∧ cmpI x y = 0) ∨ (y < x ∧ cmpI x y = 1) := by
  unfold cmpI; split
  · exact .inl ⟨by assumption, rfl⟩
  · split
    · exact .inr (.inr ⟨by assumption, rfl⟩)
    · exact .inr (.inl ⟨by omega, rfl⟩)
theorem isNaN64 (x : Int) (w : World) : Calls Tryz.prog 140 #[.int .i64 x] w fun e w' => e = .returned (.bool false) ∧ w' = w := by
  go_enter Tryz.func140, Tryz.ntmps140
  go_wp2
  go_ret
  exact ⟨rfl, rfl⟩

theorem cmp64_any (x y : Int) (w : World) : Calls Tryz.prog 108 #[.int .i64 x, .int .i64 y] w fun e w' => e = .returned (.int .i64 (cmpI x y)) ∧ w' = w := by
  have n0 := fun x => isNaN64 x
  rcases cmpI_cases x y with ⟨h, e⟩ | ⟨h, e⟩ | ⟨h, e⟩
  · rw [e]
    clear e
    go_enter Tryz.func108, Tryz.ntmps108
    go_wp2_with (go_at_call 140; refine (n0 _ _).mono ?_; rintro e w' ⟨rfl, rfl⟩)
    go_ret
    exact ⟨rfl, rfl⟩
  · rw [e]
    subst h
    clear e
    go_enter Tryz.func108, Tryz.ntmps108
    go_wp2_with (go_at_call 140; refine (n0 _ _).mono ?_; rintro e w' ⟨rfl, rfl⟩)
    go_ret
    exact ⟨rfl, rfl⟩
  · rw [e]
    clear e
    have h2 : ¬ x < y := by omega
    go_enter Tryz.func108, Tryz.ntmps108
    go_wp2_with (go_at_call 140; refine (n0 _ _).mono ?_; rintro e w' ⟨rfl, rfl⟩)
    go_ret
    exact ⟨rfl, rfl⟩

def orI (a b : Int) : Int := if a = 0 then b else a

theorem or2_any (g : Nat) (a b : Int) (c : Nat) (w : World) (h0 : w.cell? ⟨g, 0, none⟩ = some (.int .i64 a)) (h1 : w.cell? ⟨g, 1, none⟩ = some (.int .i64 b)) :
    Calls Tryz.prog 107 #[.slice (some ⟨g, 0, none⟩) 2 c] w fun e w' => e = .returned (.int .i64 (orI a b)) ∧ w' = w := by
  unfold orI
  by_cases ha : a = 0
  · subst ha
    by_cases hb : b = 0
    · subst hb
      go_enter Tryz.func107, Tryz.ntmps107
      go_wp2
      refine wp_loop_rounds 3 ?_
      rw [rounds_succ]
      go_wp2
      rw [rounds_succ]
      go_wp2
      rw [rounds_succ]
      go_wp2
      go_ret
      exact ⟨rfl, rfl⟩
    · have hb' : (b != 0) = true := by simpa using hb
      go_enter Tryz.func107, Tryz.ntmps107
      go_wp2
      refine wp_loop_rounds 3 ?_
      rw [rounds_succ]
      go_wp2
      rw [rounds_succ]
      go_wp2
      go_ret
      exact ⟨rfl, rfl⟩
  · have ha' : (a != 0) = true := by simpa using ha
    rw [if_neg ha]
    go_enter Tryz.func107, Tryz.ntmps107
    go_wp2
    refine wp_loop_rounds 3 ?_
    rw [rounds_succ]
    go_wp2
    go_ret
    exact ⟨rfl, rfl⟩

/-- How one pane's windows stand to others. -/
def cmpW (f l f' l' : Int) : Int := orI (cmpI f f') (cmpI l l')

set_option maxRecDepth 20000 in
set_option maxHeartbeats 1600000 in
theorem compare_any (f l f' l' : Int) (w : World) :
    Calls Tryz.prog 166 #[.agg #[.int .i64 f, .int .i64 l], .agg #[.int .i64 f', .int .i64 l']] w fun e w' => e = .returned (.int .i64 (cmpW f l f' l')) ∧ Below w.heap.size w w' := by
  obtain ⟨A, HA⟩ : ∃ A, Hid (cmpI f f' = A) := ⟨_, rfl⟩
  obtain ⟨B, HB⟩ : ∃ B, Hid (cmpI l l' = B) := ⟨_, rfl⟩
  obtain ⟨Z, HZ⟩ : ∃ Z, Hid (cmpW f l f' l' = Z) := ⟨_, rfl⟩
  rw [HZ.out]
  have q1 : ∀ W, Calls Tryz.prog 108 #[.int .i64 f, .int .i64 f'] W fun e w' => e = .returned (.int .i64 A) ∧ w' = W := fun W => by have := cmp64_any f f' W; rw [HA.out] at this; exact this
  have q2 : ∀ W, Calls Tryz.prog 108 #[.int .i64 l, .int .i64 l'] W fun e w' => e = .returned (.int .i64 B) ∧ w' = W := fun W => by have := cmp64_any l l' W; rw [HB.out] at this; exact this
  go_enter Tryz.func166, Tryz.ntmps166
  go_upto_region 1 with fail
  refine wp_region_still_tail 10 (by kernel_rfl) (by kernel_rfl) ?_
  simp only [List.take_succ_cons, List.take_zero, List.drop_succ_cons, List.drop_zero]
  obtain ⟨hx, hy⟩ := two_new w (.cells #[.int .i64 f, .int .i64 l] 202) (.cells #[.int .i64 f', .int .i64 l'] 202)
  have hB1 : Hid (Below w.heap.size w ((w.alloc (.cells #[.int .i64 f, .int .i64 l] 202)).alloc (.cells #[.int .i64 f', .int .i64 l'] 202)).drew) := (((Below.refl _ w).alloc (Nat.le_refl _) _).alloc (by simp) _).drew
  generalize (w.alloc (.cells #[.int .i64 f, .int .i64 l] 202)).alloc (.cells #[.int .i64 f', .int .i64 l'] 202) = W1 at *
  change wpStill Tryz.prog _ W1.drew (fun a' => wpList Tryz.prog _ _ _ a' W1.drew) _ _
  have hx : W1.drew.heap[w.heap.size]? = some (.cells #[.int .i64 f, .int .i64 l] 202 (0, 0)) := hx
  have hy : W1.drew.heap[w.heap.size + 1]? = some (.cells #[.int .i64 f', .int .i64 l'] 202 (0, 0)) := hy
  generalize W1.drew = W2 at *
  obtain ⟨x0, x1, -, -⟩ := cells2At hx
  obtain ⟨y0, y1, -, -⟩ := cells2At hy
  repeat still_step
  still_call (q1 _)
  repeat still_step
  still_call (q2 _)
  repeat still_step
  refine wpStill_nil ?_
  clear q1 q2 x0 x1 y0 y1 hx hy
  go_wp2_with fail
  have z := heap_alloc_new W2 (.cells #[.int .i64 A, .int .i64 B] 3)
  have hB2 : Hid (Below w.heap.size w (W2.alloc (.cells #[.int .i64 A, .int .i64 B] 3))) := hB1.out.alloc hB1.out.size _
  refine (or2_any _ A B 2 _ (blkCell z rfl) (blkCell z rfl)).mono ?_
  rintro e W3 ⟨rfl, rfl⟩
  have hZ : orI A B = Z := by rw [← HZ.out, ← HA.out, ← HB.out]; rfl
  rw [hZ]
  clear z hZ
  go_wp2
  go_ret
  exact ⟨rfl, hB2.out⟩

set_option maxRecDepth 20000 in
set_option maxHeartbeats 1600000 in
theorem paneCmp_any (P : Nat) (f l f' l' : Int) (w : World) (h0 : w.cell? ⟨P, 0, none⟩ = some (.int .i64 f)) (h1 : w.cell? ⟨P, 1, none⟩ = some (.int .i64 l)) :
    Calls Tryz.prog 165 #[.pointer (some ⟨P, 0, none⟩), .agg #[.int .i64 f', .int .i64 l']] w fun e w' => e = .returned (.int .i64 (cmpW f l f' l')) ∧ Below w.heap.size w w' := by
  have hP := World.block_lt_of_cell? w ⟨P, 0, none⟩ h0
  obtain ⟨Z, HZ⟩ : ∃ Z, Hid (cmpW f l f' l' = Z) := ⟨_, rfl⟩
  rw [HZ.out]
  have q1 : ∀ W, Calls Tryz.prog 166 #[.agg #[.int .i64 f, .int .i64 l], .agg #[.int .i64 f', .int .i64 l']] W fun e w' => e = .returned (.int .i64 Z) ∧ Below W.heap.size W w' := fun W => by have := compare_any f l f' l' W; rw [HZ.out] at this; exact this
  go_enter Tryz.func165, Tryz.ntmps165
  go_upto_region 1 with fail
  refine wp_region_still_tail 5 (by kernel_rfl) (by kernel_rfl) ?_
  simp only [List.take_succ_cons, List.take_zero, List.drop_succ_cons, List.drop_zero]
  have hB1 : Hid (Below w.heap.size w (w.alloc (.cells #[.int .i64 f', .int .i64 l'] 202)).drew) := ((Below.refl _ w).alloc (Nat.le_refl _) _).drew
  have hy := heap_alloc_new w (.cells #[.int .i64 f', .int .i64 l'] 202)
  have p0 := (hB1.out.cell (p := ⟨P, 0, none⟩) hP).trans h0
  have p1 := (hB1.out.cell (p := ⟨P, 1, none⟩) hP).trans h1
  generalize w.alloc (.cells #[.int .i64 f', .int .i64 l'] 202) = W1 at *
  change wpStill Tryz.prog _ W1.drew (fun a' => wpList Tryz.prog _ _ _ a' W1.drew) _ _
  have hy : W1.drew.heap[w.heap.size]? = some (.cells #[.int .i64 f', .int .i64 l'] 202 (0, 0)) := hy
  generalize W1.drew = W2 at *
  obtain ⟨y0, y1, -, -⟩ := cells2At hy
  repeat still_step
  refine wpStill_nil ?_
  clear p0 p1 y0 y1 h0 h1 hy
  go_wp2_with fail
  refine (q1 _).mono ?_
  rintro e W3 ⟨rfl, hb3⟩
  have hB2 : Hid (Below w.heap.size w W3) := hB1.out.trans (hb3.mono hB1.out.size)
  clear hb3 q1
  go_wp2
  go_ret
  exact ⟨rfl, hB2.out⟩
end Go.Proofs.YtcfngdnmpogaoaaGreat

/-
  The search among panes.
-/
namespace Go.Proofs.YtcfngdnmpogaoaaGreat
open Go.RowKit Go.MuLone

/-- A pane and its windows. -/
structure PaneQ where
  P : Nat
  f : Int
  l : Int

theorem cmpW_range (f l f' l' : Int) : -1 ≤ cmpW f l f' l' ∧ cmpW f l f' l' ≤ 1 := by
  unfold cmpW orI
  rcases cmpI_cases f f' with ⟨_, h⟩ | ⟨_, h⟩ | ⟨_, h⟩ <;> rcases cmpI_cases l l' with ⟨_, h2⟩ | ⟨_, h2⟩ | ⟨_, h2⟩ <;> rw [h, h2] <;> simp

theorem bsearch_zero (a : Option Addr) (c : Nat) (first last : Int) (f : Value) (w : World) :
    Calls Tryz.prog 164 #[.slice a 0 c, .agg #[.int .i64 first, .int .i64 last], f] w fun e w' => e = .returned (.tuple #[.int .i64 0, .bool false]) ∧ Below w.heap.size w w' := by
  go_enter Tryz.func164, Tryz.ntmps164
  go_wp2
  refine wp_loop_rounds 1 ?_
  rw [rounds_succ]
  go_wp2_with fail
  have hd : decide ((0 : Int) < 0) = false := by decide
  go_quiet (fail)
  go_wp2
  go_ret2
  exact ⟨rfl, below_drewN ((Below.refl _ w).alloc (Nat.le_refl _) _) nq⟩

structure BInv (w wr : World) (B : Nat) (qs : List PaneQ) (f l : Int) (lo hi : Nat) : Prop where
  le : lo ≤ hi
  len : hi ≤ qs.length
  less : ∀ (t : Nat) q, t < lo → qs[t]? = some q → cmpW q.f q.l f l < 0
  more : ∀ (t : Nat) q, hi ≤ t → qs[t]? = some q → 0 ≤ cmpW q.f q.l f l
  below : Below B w wr
  box : wr.heap[B]? = some (.cells #[.int .i64 f, .int .i64 l] 202 (0, 0))

set_option maxRecDepth 20000 in
set_option maxHeartbeats 3200000 in
theorem bsearch_any (g o c : Nat) (qs : List PaneQ) (f l : Int) (w : World) (hrow : Row w 208 1 (.slice (some ⟨g, o, none⟩) qs.length c) (qs.map fun q => .pointer (some ⟨q.P, 0, none⟩)))
    (hc : ∀ q ∈ qs, w.cell? ⟨q.P, 0, none⟩ = some (.int .i64 q.f) ∧ w.cell? ⟨q.P, 1, none⟩ = some (.int .i64 q.l))
    (hmono : ∀ (a b : Nat) qa qb, a ≤ b → qs[a]? = some qa → qs[b]? = some qb → cmpW qb.f qb.l f l < 0 → cmpW qa.f qa.l f l < 0) (hsz : qs.length ≤ 4611686018427387904) :
    Calls Tryz.prog 164 #[.slice (some ⟨g, o, none⟩) qs.length c, .agg #[.int .i64 f, .int .i64 l], .func (.func 165) #[] #[]] w fun e w' => ∃ k : Nat, k ≤ qs.length ∧ (∀ (t : Nat) q, t < k → qs[t]? = some q → cmpW q.f q.l f l < 0) ∧ (∀ (t : Nat) q, k ≤ t → qs[t]? = some q → 0 ≤ cmpW q.f q.l f l) ∧
      (∃ fd : Bool, e = .returned (.tuple #[.int .i64 k, .bool fd]) ∧ (fd = true ↔ ∃ q, qs[k]? = some q ∧ cmpW q.f q.l f l = 0)) ∧ Below w.heap.size w w' := by
  have HR : Hid (Row w 208 1 (.slice (some ⟨g, o, none⟩) qs.length c) (qs.map fun q => .pointer (some ⟨q.P, 0, none⟩))) := hrow
  have HC : Hid (∀ q ∈ qs, w.cell? ⟨q.P, 0, none⟩ = some (.int .i64 q.f) ∧ w.cell? ⟨q.P, 1, none⟩ = some (.int .i64 q.l)) := hc
  have HM : Hid (∀ (a b : Nat) qa qb, a ≤ b → qs[a]? = some qa → qs[b]? = some qb → cmpW qb.f qb.l f l < 0 → cmpW qa.f qa.l f l < 0) := hmono
  clear hrow hc hmono
  have hbox := heap_alloc_new w (.cells #[.int .i64 f, .int .i64 l] 202)
  have hB1 : Below w.heap.size w (w.alloc (.cells #[.int .i64 f, .int .i64 l] 202)) := (Below.refl _ w).alloc (Nat.le_refl _) _
  -- what stands at a place, in a later world
  have hat : ∀ (wr : World) (t : Nat), Below w.heap.size w wr → t < qs.length → ∃ q, qs[t]? = some q ∧ wr.cell? ⟨g, o + t, none⟩ = some (.pointer (some ⟨q.P, 0, none⟩)) ∧ wr.cell? ⟨q.P, 0, none⟩ = some (.int .i64 q.f) ∧ wr.cell? ⟨q.P, 1, none⟩ = some (.int .i64 q.l) := by
    intro wr t hb ht
    refine ⟨qs[t], by simp [ht], ?_, ?_, ?_⟩
    · have := HR.out.cell t (by omega)
      rw [List.getElem?_map, List.getElem?_eq_getElem ht] at this
      rw [hb.cell (p := ⟨g, o + t, none⟩) (HR.out.blk_lt (k := g) rfl).1]; exact this
    · have := (HC.out qs[t] (by simp)).1
      rw [hb.cell (p := ⟨qs[t].P, 0, none⟩) (World.block_lt_of_cell? w ⟨qs[t].P, 0, none⟩ this)]; exact this
    · have := (HC.out qs[t] (by simp)).2
      rw [hb.cell (p := ⟨qs[t].P, 1, none⟩) (World.block_lt_of_cell? w ⟨qs[t].P, 1, none⟩ this)]; exact this
  have HA : Hid (∀ (wr : World) (t : Nat), Below w.heap.size w wr → t < qs.length → ∃ q, qs[t]? = some q ∧ wr.cell? ⟨g, o + t, none⟩ = some (.pointer (some ⟨q.P, 0, none⟩)) ∧ wr.cell? ⟨q.P, 0, none⟩ = some (.int .i64 q.f) ∧ wr.cell? ⟨q.P, 1, none⟩ = some (.int .i64 q.l)) := hat
  clear hat
  go_enter Tryz.func164, Tryz.ntmps164
  go_wp2
  obtain ⟨B, HBe⟩ : ∃ B, Hid (w.heap.size = B) := ⟨_, rfl⟩
  rw [HBe.out] at hbox hB1 HA ⊢
  have HX : Hid ((w.alloc (.cells #[.int .i64 f, .int .i64 l] 202)).heap[B]? = some (.cells #[.int .i64 f, .int .i64 l] 202 (0, 0))) := hbox
  have HB1 : Hid (Below B w (w.alloc (.cells #[.int .i64 f, .int .i64 l] 202))) := hB1
  clear hbox hB1
  go_loopw [9, 10] (fun i j wr => ∃ lo hi : Nat, i = .int .i64 (lo : Int) ∧ j = .int .i64 (hi : Int) ∧ BInv w wr B qs f l lo hi) (fun i j _ => (intOf j - intOf i).toNat)
  case atStart =>
    exact ⟨0, qs.length, rfl, rfl, ⟨Nat.zero_le _, Nat.le_refl _, fun t q h => by omega, fun t q h hq => (by rw [List.getElem?_eq_none h] at hq; cases hq), HB1.out, HX.out⟩⟩
  case round =>
    obtain ⟨lo, hi, rfl, rfl, hI⟩ := hrel
    have h1 := hI.le
    have h2 := hI.len
    have HI : Hid (BInv w wr B qs f l lo hi) := hI
    clear hI
    by_cases hlt : lo < hi
    · obtain ⟨q, hq, c0, c1, c2⟩ := HA.out wr ((lo + hi) / 2) HI.out.below (by omega)
      obtain ⟨y0, y1, -, -⟩ := cells2At HI.out.box
      have hmid : ((lo : Int) + (hi : Int)) / 2 = (((lo + hi) / 2 : Nat) : Int) := by omega
      generalize hm : (lo + hi) / 2 = m at *
      have hml : lo ≤ m := by omega
      have hmh : m < hi := by omega
      have HQ : Hid (qs[m]? = some q) := hq
      have HMid : Hid (((lo : Int) + (hi : Int)) / 2 = (m : Int)) := hmid
      clear hm hq hmid
      go_upto_region 5 with fail
      rw [HMid.out]
      refine wp_region_still_tail 6 (by kernel_rfl) (by kernel_rfl) ?_
      simp only [List.take_succ_cons, List.take_zero, List.drop_succ_cons, List.drop_zero]
      change wpStill Tryz.prog _ wr.drew (fun a' => wpList Tryz.prog _ _ _ a' wr.drew) _ _
      have c0 : wr.drew.cell? ⟨g, o + m, none⟩ = some (.pointer (some ⟨q.P, 0, none⟩)) := c0
      have c1 : wr.drew.cell? ⟨q.P, 0, none⟩ = some (.int .i64 q.f) := c1
      have c2 : wr.drew.cell? ⟨q.P, 1, none⟩ = some (.int .i64 q.l) := c2
      have y0 : wr.drew.cell? ⟨B, 0, none⟩ = some (.int .i64 f) := y0
      have y1 : wr.drew.cell? ⟨B, 1, none⟩ = some (.int .i64 l) := y1
      have HI2 : Hid (BInv w wr.drew B qs f l lo hi) := ⟨HI.out.le, HI.out.len, HI.out.less, HI.out.more, HI.out.below.drew, HI.out.box⟩
      generalize wr.drew = W2 at *
      have hmn : (m : Int) < (qs.length : Int) := by omega
      repeat still_step
      refine wpStill_nil ?_
      have hpc := paneCmp_any q.P q.f q.l f l W2 c1 c2
      obtain ⟨Z, HZ⟩ : ∃ Z, Hid (cmpW q.f q.l f l = Z) := ⟨_, rfl⟩
      rw [HZ.out] at hpc
      clear c0 c1 c2 y0 y1
      go_wp2_with fail
      refine hpc.mono ?_
      rintro e W3 ⟨rfl, hb3⟩
      have hBs := blkLt HI2.out.box
      have HI3 : Hid (BInv w W3 B qs f l lo hi) := ⟨HI.out.le, HI.out.len, HI.out.less, HI.out.more, HI2.out.below.trans (hb3.mono (by omega)), blkBelow HI2.out.box hb3⟩
      clear hpc hb3
      by_cases hz : Z < 0
      · go_wp2
        go_roundw
        case rel =>
          refine ⟨m + 1, hi, by go_num, rfl, ⟨by omega, h2, fun t q' ht hq' => ?_, HI3.out.more, HI3.out.below, HI3.out.box⟩⟩
          exact HM.out t m q' q (by omega) hq' HQ.out (by rw [HZ.out]; exact hz)
        case measure => simp [intOf]; omega
      · go_wp2
        go_roundw
        case rel =>
          refine ⟨lo, m, rfl, rfl, ⟨by omega, by omega, HI3.out.less, fun t q' ht hq' => ?_, HI3.out.below, HI3.out.box⟩⟩
          refine Int.not_lt.1 (fun hh => absurd (HM.out m t q q' ht HQ.out hq' hh) ?_)
          rw [HZ.out]; omega
        case measure => simp [intOf]; omega
    · have hlh : lo = hi := by omega
      subst hlh
      go_upto_region 8 with fail
      by_cases hn : lo < qs.length
      · obtain ⟨q, hq, c0, c1, c2⟩ := HA.out wr lo HI.out.below hn
        obtain ⟨y0, y1, -, -⟩ := cells2At HI.out.box
        have HQ : Hid (qs[lo]? = some q) := hq
        clear hq
        have hd : decide ((lo : Int) < (qs.length : Int)) = true := by simpa using hn
        have HI2 : Hid (BInv w wr.drew B qs f l lo lo) := ⟨HI.out.le, HI.out.len, HI.out.less, HI.out.more, HI.out.below.drew, HI.out.box⟩
        have hmn : (lo : Int) < (qs.length : Int) := by omega
        have hpc := fun W h1 h2 => paneCmp_any q.P q.f q.l f l W h1 h2
        obtain ⟨Z, HZ⟩ : ∃ Z, Hid (cmpW q.f q.l f l = Z) := ⟨_, rfl⟩
        rw [HZ.out] at hpc
        have hgw : g < wr.heap.size := World.block_lt_of_cell? wr ⟨g, o + lo, none⟩ c0
        have hBs := blkLt HI.out.box
        have K1 : Hid (wr.cell? ⟨q.P, 0, none⟩ = some (.int .i64 q.f)) := c1
        have K2 : Hid (wr.cell? ⟨q.P, 1, none⟩ = some (.int .i64 q.l)) := c2
        clear c1 c2
        go_region_held3 (fun W => W.cell? ⟨g, o + lo, none⟩ = some (.pointer (some ⟨q.P, 0, none⟩)) ∧ W.cell? ⟨B, 0, none⟩ = some (.int .i64 f) ∧ W.cell? ⟨B, 1, none⟩ = some (.int .i64 l)) (go_keep) (first | (go_at_call 165; refine (hpc wr.drew K1.out K2.out).mono ?_; rintro e W3 ⟨rfl, hb3⟩; have k0 : W3.cell? ⟨g, o + lo, none⟩ = some (.pointer (some ⟨q.P, 0, none⟩)) := (hb3.cell (p := ⟨g, o + lo, none⟩) hgw).trans c0; have k1 : W3.cell? ⟨B, 0, none⟩ = some (.int .i64 f) := (hb3.cell (p := ⟨B, 0, none⟩) hBs).trans y0; have k2 : W3.cell? ⟨B, 1, none⟩ = some (.int .i64 l) := (hb3.cell (p := ⟨B, 1, none⟩) hBs).trans y1))
        have HI3 : Hid (BInv w W3 B qs f l lo lo) := ⟨HI.out.le, HI.out.len, HI.out.less, HI.out.more, HI2.out.below.trans (hb3.mono (by show B ≤ wr.heap.size; omega)), blkBelow HI2.out.box hb3⟩
        clear hpc hb3 c0 y0 y1 k0 k1 k2
        go_wp2
        go_ret2
        refine ⟨lo, h2, HI3.out.less, HI3.out.more, ⟨(Z == 0), rfl, ?_⟩, by rw [HBe.out]; exact HI3.out.below⟩
        constructor
        · intro h
          exact ⟨q, HQ.out, by rw [HZ.out]; simpa using h⟩
        · rintro ⟨q', hq', h0⟩
          rw [HQ.out] at hq'
          cases hq'
          rw [HZ.out] at h0
          simpa using h0
      · have hd : decide ((lo : Int) < (qs.length : Int)) = false := by simpa using hn
        go_quiet (fail)
        go_wp2
        go_ret2
        refine ⟨lo, h2, HI.out.less, HI.out.more, ⟨false, rfl, ?_⟩, by rw [HBe.out]; exact below_drewN HI.out.below nq⟩
        refine ⟨fun h => (by cases h), ?_⟩
        rintro ⟨q', hq', h0⟩
        rw [List.getElem?_eq_none (by omega)] at hq'
        cases hq'
end Go.Proofs.YtcfngdnmpogaoaaGreat

namespace Go.Proofs.YtcfngdnmpogaoaaGreat
open Go.RowKit

theorem Row.put {w : World} {e : TypeId} {g off n cap : Nat} {xs : List Value} (h : Row w e 1 (.slice (some ⟨g, off, none⟩) n cap) xs) (j : Nat) (hj : j < xs.length) (u : Value) : Row (w.setCell ⟨g, off + j, none⟩ u) e 1 (.slice (some ⟨g, off, none⟩) n cap) (xs.set j u) := by
  rcases h with ⟨h, _⟩ | ⟨g', off', n', cap', cur, hv, hg, r1, r2, r3, r4, r5⟩
  · simp at h
  · simp only [Value.slice.injEq, Option.some.injEq, Addr.mk.injEq] at hv
    obtain ⟨⟨rfl, rfl, _⟩, rfl, rfl⟩ := hv
    refine .inr ⟨g, off, n, cap, _, rfl, heap_setCell_same w g (off + j) cur e u hg, r1, r2, by simpa using r3, by simpa using r4, fun i hi => ?_⟩
    rw [Array.getElem?_setIfInBounds, List.getElem?_set]
    by_cases hij : j = i
    · subst hij
      rw [if_pos rfl, if_pos rfl, if_pos (by omega), if_pos hj]
    · rw [if_neg (by omega), if_neg hij]
      exact r5 i hi

theorem signs_step (m : Int) (xs : List Value) (k : Nat) (h : k < xs.length) : (signs m k ++ xs.drop k).set k (.int .u8 (signZ m (k : Int))) = signs m (k + 1) ++ xs.drop (k + 1) := by
  have hl := signs_len m k
  rw [List.set_append, if_neg (by omega), hl, Nat.sub_self, List.drop_eq_getElem_cons h, List.set_cons_zero, signs_snoc]
  simp

set_option maxRecDepth 20000 in
set_option maxHeartbeats 1600000 in
theorem marks_bytes (hb : Nat) (m : Int) (vb : Value) (xs : List Value) (w : World) (hblk : w.heap[hb]? = some (.cells #[vb, .slice none 0 0, .slice none 0 0, .int .i64 m] 135 (0, 0))) (hrow : Row w 5 1 vb xs) (hl : xs.length ≤ 9223372036854775807) :
    Calls Tryz.prog 82 #[.pointer (some ⟨hb, 0, none⟩)] w fun e w' => (∃ v, e = .returned v) ∧ Row w' 5 1 vb (signs m xs.length) ∧ Kept (fun k => vb.ownBlock = some k) w w' := by
  obtain ⟨ab, cb, hvb, -⟩ := hrow.len (by decide)
  rw [Nat.div_one] at hvb
  subst hvb
  have hlt := (hold_cells hblk).2.2.2.2.2
  generalize hn : xs.length = n at *
  have Hn : Hid (xs.length = n) := hn
  clear hn
  have HR : Hid (Row w 5 1 (.slice ab n cb) xs) := hrow
  have HB : Hid (w.heap[hb]? = some (.cells #[.slice ab n cb, .slice none 0 0, .slice none 0 0, .int .i64 m] 135 (0, 0))) := hblk
  have HC : Hid (∀ wr, Kept (fun k => (Value.slice ab n cb).ownBlock = some k) w wr → wr.heap[hb]? = some (.cells #[.slice ab n cb, .slice none 0 0, .slice none 0 0, .int .i64 m] 135 (0, 0))) := fun wr hk =>
    (hk.block hb hlt (HR.out.ne_block HB.out (by decide))).trans HB.out
  clear hrow hblk
  go_enter Tryz.func82, Tryz.ntmps82
  go_wp2
  go_loopw [2] (fun i wr => ∃ k : Nat, k ≤ n ∧ i = .int .i64 (k : Int) ∧ Row wr 5 1 (.slice ab n cb) (signs m k ++ xs.drop k) ∧ Kept (fun k => (Value.slice ab n cb).ownBlock = some k) w wr) (fun i _ => n - (intOf i).toNat)
  case atStart => exact ⟨0, Nat.zero_le _, rfl, by simpa [signs] using HR.out, Kept.refl _ _⟩
  case round =>
    obtain ⟨k, hk, rfl, hr, hkp⟩ := hrel
    have hblk := HC.out _ hkp
    obtain ⟨c0, c1, c2, c3, fz, hltr⟩ := hold_cells hblk
    have Hr : Hid (Row wr 5 1 (.slice ab n cb) (signs m k ++ xs.drop k)) := hr
    have Hkp : Hid (Kept (fun k => (Value.slice ab n cb).ownBlock = some k) w wr) := hkp
    by_cases hkn : k < n
    · obtain ⟨g, off, rfl⟩ := slice_some hr (by omega)
      have hne := hr.ne_block hblk (by decide)
      have hgh : ¬ g = hb := fun h => hne (by rw [h]; rfl)
      have hgh' : ¬ hb = g := fun h => hgh h.symm
      have hxl : (signs m k ++ xs.drop k).length = n := by rw [List.length_append, signs_len, List.length_drop, Hn.out]; omega
      have hcell := hr.cell k (by omega)
      obtain ⟨old, ho⟩ : ∃ old, (signs m k ++ xs.drop k)[k]? = some old := ⟨_, List.getElem?_eq_getElem (by omega)⟩
      rw [ho] at hcell
      have hfz := hr.frozen (off + k)
      clear hr hkp hblk hne ho
      go_wp2
      go_region_held3 (fun W => W.cell? ⟨hb, 0, none⟩ = some (.slice (some ⟨g, off, none⟩) n cb) ∧ W.cell? ⟨hb, 3, none⟩ = some (.int .i64 m)) (go_keep) (first | (go_at_call 86; refine (sign_any _ _ _).mono ?_; rintro e w' ⟨rfl, rfl⟩))
      go_wp2
      go_roundw
      case rel =>
        refine ⟨k + 1, by omega, by go_num, ?_, (Hkp.out.setCell ⟨g, off + k, none⟩ _ (fun _ => rfl)).drew⟩
        have := Hr.out.put k (by omega) (.int .u8 (signZ m (k : Int)))
        rw [signs_step m xs k (by rw [Hn.out]; exact hkn)] at this
        exact this
      case measure => simp [intOf]; omega
    · clear hr hkp hblk
      have hkn' : k = n := by omega
      subst hkn'
      go_wp2
      refine wp_loop_rounds 1 ?_
      rw [rounds_succ]
      go_wp2
      refine wp_loop_rounds 1 ?_
      rw [rounds_succ]
      go_wp2
      go_end0
      refine ⟨⟨_, rfl⟩, ?_, Hkp.out⟩
      have := Hr.out
      rw [List.drop_of_length_le (by rw [Hn.out]; exact Nat.le_refl _), List.append_nil] at this
      exact this

end Go.Proofs.YtcfngdnmpogaoaaGreat
