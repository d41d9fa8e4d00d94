import Derived.Test.YtcfngdnmpogaoaaGreatWnA02
namespace Go.Proofs.YtcfngdnmpogaoaaGreat
open Go.RowKit

theorem itemRow {w : World} {iv : Value} {E : List Ev} (h : Row w 28 5 iv (E.flatMap evCells)) : ∃ a c, iv = .slice a E.length c ∧ ∀ n e, E[n]? = some e → ∃ g off, a = some ⟨g, off, none⟩ ∧ g < w.heap.size ∧ ∀ k, k < 5 → w.cell? ⟨g, off + n * 5 + k, none⟩ = (evCells e)[k]? := by
  rcases h with ⟨h1, h2⟩ | ⟨ge, off, m, cap, cur, h1, hg, h3, h4, h5, h6, h7⟩
  · have := congrArg List.length h2
    rw [evFlat_len, List.length_nil] at this
    refine ⟨none, 0, by rw [h1, show E.length = 0 from by omega], fun n e hn => ?_⟩
    have := (List.getElem?_eq_some_iff.1 hn).1
    omega
  · have hlen := evFlat_len E
    rw [hlen] at h6
    have hm : m = E.length := by omega
    subst hm
    refine ⟨_, cap, h1, fun n e hn => ⟨ge, off, rfl, (Array.getElem?_eq_some_iff.1 hg).1, fun k hk => ?_⟩⟩
    have hnl : n < E.length := (List.getElem?_eq_some_iff.1 hn).1
    rw [← evFlat E n k e hn hk, ← h7 (n * 5 + k) (by omega)]
    simp [World.cell?, hg, Nat.add_assoc]

def anyV (v : Int) (W : List Ev) : Bool := W.any fun e => decide (e.v = v)
theorem anyV_snoc (v : Int) (W : List Ev) (e : Ev) : anyV v (W ++ [e]) = (anyV v W || decide (e.v = v)) := by unfold anyV; rw [List.any_append]; simp

set_option maxRecDepth 20000 in
set_option maxHeartbeats 6400000 in
theorem ktold_any (lv iv : Value) (ys : List WinX) (E : List Ev) (size slide late keys : Int) (w : World) (hl : WinsAt w lv ys 0) (hi : Row w 28 5 iv (E.flatMap evCells)) (hA : AllW size slide E (ys.map WinX.w)) (hF : Fits E) (ht : ∀ e ∈ E, -500 ≤ e.t ∧ e.t < 500) (h1 : 1 ≤ slide) (h2 : slide ≤ 20) (h3 : 0 ≤ size) (h4 : size ≤ 2000) (hE : E.length ≤ 1000) :
    Calls Tryz.prog 26 #[lv, iv, .agg #[.int .i64 size, .int .i64 slide, .int .i64 late, .int .i64 keys]] w fun e w' => e = .returned (.bool true) ∧ Below w.heap.size w w' := by
  have HL : Hid (WinsAt w lv ys 0) := hl
  have HA : Hid (AllW size slide E (ys.map WinX.w)) := hA
  have HF : Hid (Fits E) := hF
  have HT : Hid (∀ e ∈ E, -500 ≤ e.t ∧ e.t < 500) := ht
  obtain ⟨la, lc, rfl⟩ : ∃ a c, lv = .slice a ys.length c := by
    rcases hl.row with ⟨h, h'⟩ | ⟨g, off, n, cap, cur, h, _, _, _, _, hn, _⟩
    · have := winFlat_len ys
      rw [h', List.length_nil] at this
      exact ⟨_, _, by rw [h, show ys.length = 0 by omega]⟩
    · rw [winFlat_len] at hn
      exact ⟨_, _, by rw [h, show ys.length = n by omega]⟩
  obtain ⟨ia, ic, rfl, hit⟩ := itemRow hi
  have HIt : Hid (∀ n e, E[n]? = some e → ∃ g off, ia = some ⟨g, off, none⟩ ∧ g < w.heap.size ∧ ∀ k, k < 5 → w.cell? ⟨g, off + n * 5 + k, none⟩ = (evCells e)[k]?) := hit
  clear hl hi hA hF ht hit
  obtain ⟨ne, Hne⟩ : ∃ n, Hid (E.length = n) := ⟨_, rfl⟩
  obtain ⟨nl, Hnl⟩ : ∃ n, Hid (ys.length = n) := ⟨_, rfl⟩
  rw [Hne.out] at hE
  rw [Hne.out, Hnl.out]
  have hnl : nl ≤ 2000000 := by
    have := HA.out.len HF.out h1 h3
    rw [List.length_map, Hnl.out, Hne.out] at this
    have h5 : ne * size.toNat ≤ 1000 * 2000 := Nat.mul_le_mul hE (by omega)
    omega
  have HTot : Hid (((ys.map WinX.w).map fun x => (evsIn size E x).length).sum ≤ 2000000) := by
    have := HA.out.sums h1 h3
    rw [Hne.out] at this
    have h5 : ne * size.toNat ≤ 1000 * 2000 := Nat.mul_le_mul hE (by omega)
    show _ ≤ _
    omega
  go_enter Tryz.func26, Tryz.ntmps26
  go_upto_region 1 with fail
  have hi1 := heap_alloc_new w (.cells #[.int .i64 size, .int .i64 slide, .int .i64 late, .int .i64 keys] 42)
  have hb1 : Below w.heap.size w (w.alloc (.cells #[.int .i64 size, .int .i64 slide, .int .i64 late, .int .i64 keys] 42)) := (Below.refl _ w).alloc (Nat.le_refl _) _
  have hb1s : w.heap.size < (w.alloc (.cells #[.int .i64 size, .int .i64 slide, .int .i64 late, .int .i64 keys] 42)).heap.size := by simp
  obtain ⟨C, HC⟩ : ∃ C, Hid (w.heap.size = C) := ⟨_, rfl⟩
  rw [HC.out] at hi1 hb1s ⊢
  have HB1 : Hid (Below w.heap.size w (w.alloc (.cells #[.int .i64 size, .int .i64 slide, .int .i64 late, .int .i64 keys] 42))) := hb1
  clear hb1
  generalize w.alloc (.cells #[.int .i64 size, .int .i64 slide, .int .i64 late, .int .i64 keys] 42) = W1 at *
  have HI1 : Hid (W1.heap[C]? = some (.cells #[.int .i64 size, .int .i64 slide, .int .i64 late, .int .i64 keys] 42 (0, 0))) := hi1
  clear hi1
  go_wp2_with fail
  go_loopw [7, 8] (fun c7 c8 wr => ∃ i : Nat, i ≤ nl ∧ c8 = .int .i64 (i : Int) ∧ c7 = .int .i64 (((((ys.map WinX.w).take i).map fun x => (evsIn size E x).length).sum : Nat) : Int) ∧ Below W1.heap.size W1 wr) (fun _ c8 _ => nl - (intOf c8).toNat)
  case atStart => exact ⟨0, Nat.zero_le _, rfl, rfl, Below.refl _ _⟩
  case round =>
    obtain ⟨i, hil, rfl, rfl, hbw⟩ := hrel
    have HBw : Hid (Below W1.heap.size W1 wr) := hbw
    have HB0 : Hid (Below w.heap.size w wr) := HB1.out.trans (hbw.mono (by rw [HC.out]; omega))
    have hwr := hbw.size
    have hcf := blkBelow HI1.out hbw
    clear hbw
    by_cases hlt : i < nl
    · have hi' : i < ys.length := by rw [Hnl.out]; exact hlt
      have HTs : Hid ((((ys.map WinX.w).take (i + 1)).map fun x => (evsIn size E x).length).sum = (((ys.map WinX.w).take i).map fun x => (evsIn size E x).length).sum + (evsIn size E ys[i].w).length ∧ (((ys.map WinX.w).take (i + 1)).map fun x => (evsIn size E x).length).sum ≤ 2000000) := by
        have h5 := sum_take_succ (fun x => (evsIn size E x).length) (k := i) (l := ys.map WinX.w) (x := ys[i].w) (by rw [List.getElem?_map, List.getElem?_eq_getElem hi']; rfl)
        exact ⟨h5, Nat.le_trans (sum_take_le _ (i + 1) _) HTot.out⟩
      generalize (((ys.map WinX.w).take i).map fun x => (evsIn size E x).length).sum = tot at *
      have hx : ys[i]? = some ys[i] := List.getElem?_eq_getElem hi'
      have HWin : Hid (WinIs ys[i].w ys[i].w.key ys[i].w.start (evsIn size E ys[i].w) ∧ evsIn size E ys[i].w ≠ [] ∧ slide ∣ ys[i].w.start) := HA.out.win HF.out (List.mem_map.2 ⟨_, List.getElem_mem hi', rfl⟩)
      have HSt : Hid (-500 - size < ys[i].w.start ∧ ys[i].w.start < 500) := by
        obtain ⟨key, s, ⟨e, he, _, _, q1, q2⟩, hw⟩ := (HA.out.mem ys[i].w).1 (List.mem_map.2 ⟨_, List.getElem_mem hi', rfl⟩)
        have := HT.out e he
        show _ ∧ _
        rw [hw, (winF_key key s size E).2]
        omega
      have HPr : Hid (∀ y, 0 < i → ys[i - 1]? = some y → y.w.start < ys[i].w.start ∨ y.w.start = ys[i].w.start ∧ Op.bytesLess y.w.key.toList ys[i].w.key.toList = true) := fun y h0 hy => by
        have hp := List.pairwise_iff_getElem.1 HA.out.order (i - 1) i (by rw [List.length_map]; omega) (by rw [List.length_map]; omega) (by omega)
        rw [ltW_iff, List.getElem_map, List.getElem_map] at hp
        rw [List.getElem?_eq_getElem (by omega)] at hy
        rw [← Option.some.inj hy]
        exact hp
      have HTg : Hid (Row wr 26 1 ys[i].tv (ys[i].w.tags.map tagV)) := (HL.out.tags _ (List.getElem_mem hi')).1.below HB0.out (fun k hk => ((HL.out.tags _ (List.getElem_mem hi')).1.blk_lt hk).1)
      obtain ⟨⟨X, tv⟩, hxx⟩ : ∃ x, ys[i] = x := ⟨_, rfl⟩
      rw [hxx] at hx HTs HWin HSt HPr HTg
      simp only at HTs HWin HSt HPr HTg
      clear hxx
      obtain ⟨lg, lo, rfl⟩ : ∃ g off, la = some ⟨g, off, none⟩ := by
        obtain ⟨g, off, n, cap, h5, -, -⟩ := HL.out.row.shape (fun h6 => by have := winFlat_len ys; rw [h6, List.length_nil] at this; omega)
        simp only [Value.slice.injEq] at h5
        exact ⟨g, off, h5.1⟩
      have hlg : lg < w.heap.size := (HL.out.row.blk_lt rfl).1
      have HLc : Hid (∀ (n : Nat) (x : WinX) (k : Nat), ys[n]? = some x → k < 7 → wr.cell? ⟨lg, lo + n * 7 + k, none⟩ = (wxCells x)[k]?) := fun n x k hn hk => by
        rw [HB0.out.cell (p := ⟨lg, lo + n * 7 + k, none⟩) hlg]
        exact HL.out.cellAt hn k hk
      have htl : X.tags.length ≤ 1000 := by
        have h6 := HWin.out.1.tagsLen
        have h7 := List.length_filter_le (inWin X.key X.start size) E
        rw [Hne.out] at h7
        have h8 : (evsIn size E X).length ≤ ne := h7
        omega
      obtain ⟨ta, tc, htv, -⟩ := HTg.out.slice
      rw [List.length_map] at htv
      subst htv
      have l0 := HLc.out i _ 0 hx (by omega)
      have l1 := HLc.out i _ 1 hx (by omega)
      have l2 := HLc.out i _ 2 hx (by omega)
      have l3 := HLc.out i _ 3 hx (by omega)
      have l4 := HLc.out i _ 4 hx (by omega)
      have l5 := HLc.out i _ 5 hx (by omega)
      have l6 := HLc.out i _ 6 hx (by omega)
      simp only [wxCells, List.getElem?_cons_zero, List.getElem?_cons_succ, Nat.add_zero] at l0 l1 l2 l3 l4 l5 l6
      go_upto_region 6 with fail
      have hi2 := heap_alloc_new wr (.cells #[.string X.key, .int .i64 X.start, .int .i64 X.cnt, .int .i64 X.sum, .int .i64 X.lo, .int .i64 X.hi, .slice ta X.tags.length tc] 70)
      have hb2 : Below wr.heap.size wr (wr.alloc (.cells #[.string X.key, .int .i64 X.start, .int .i64 X.cnt, .int .i64 X.sum, .int .i64 X.lo, .int .i64 X.hi, .slice ta X.tags.length tc] 70)) := (Below.refl _ wr).alloc (Nat.le_refl _) _
      have HB2 : Hid (Below w.heap.size w (wr.alloc (.cells #[.string X.key, .int .i64 X.start, .int .i64 X.cnt, .int .i64 X.sum, .int .i64 X.lo, .int .i64 X.hi, .slice ta X.tags.length tc] 70))) := HB0.out.trans (hb2.mono HB0.out.size)
      have HC2 : Hid ((wr.alloc (.cells #[.string X.key, .int .i64 X.start, .int .i64 X.cnt, .int .i64 X.sum, .int .i64 X.lo, .int .i64 X.hi, .slice ta X.tags.length tc] 70)).heap[C]? = some (.cells #[.int .i64 size, .int .i64 slide, .int .i64 late, .int .i64 keys] 42 (0, 0))) := blkBelow hcf hb2
      have HTg2 : Hid (Row (wr.alloc (.cells #[.string X.key, .int .i64 X.start, .int .i64 X.cnt, .int .i64 X.sum, .int .i64 X.lo, .int .i64 X.hi, .slice ta X.tags.length tc] 70)) 26 1 (.slice ta X.tags.length tc) (X.tags.map tagV)) := HTg.out.below hb2 (fun k hk => (HTg.out.blk_lt hk).1)
      have hlgw : lg < wr.heap.size := by have := HB0.out.size; omega
      have HLc2 : Hid (∀ (n : Nat) (x : WinX) (k : Nat), ys[n]? = some x → k < 7 → (wr.alloc (.cells #[.string X.key, .int .i64 X.start, .int .i64 X.cnt, .int .i64 X.sum, .int .i64 X.lo, .int .i64 X.hi, .slice ta X.tags.length tc] 70)).cell? ⟨lg, lo + n * 7 + k, none⟩ = (wxCells x)[k]?) := fun n x k hn hk => by
        rw [hb2.cell (p := ⟨lg, lo + n * 7 + k, none⟩) hlgw]
        exact HLc.out n x k hn hk
      have HBv2 : Hid (Below W1.heap.size W1 (wr.alloc (.cells #[.string X.key, .int .i64 X.start, .int .i64 X.cnt, .int .i64 X.sum, .int .i64 X.lo, .int .i64 X.hi, .slice ta X.tags.length tc] 70))) := HBw.out.trans (hb2.mono hwr)
      obtain ⟨B, HBq⟩ : ∃ B, Hid (wr.heap.size = B) := ⟨_, rfl⟩
      have hB2 : B < (wr.alloc (.cells #[.string X.key, .int .i64 X.start, .int .i64 X.cnt, .int .i64 X.sum, .int .i64 X.lo, .int .i64 X.hi, .slice ta X.tags.length tc] 70)).heap.size := by rw [← HBq.out]; exact blkLt hi2
      have hCB : C < B := by rw [← HBq.out]; omega
      have hwB : w.heap.size ≤ B := by rw [← HBq.out]; exact HB0.out.size
      rw [HBq.out] at hi2 ⊢
      have HI2 : Hid ((wr.alloc (.cells #[.string X.key, .int .i64 X.start, .int .i64 X.cnt, .int .i64 X.sum, .int .i64 X.lo, .int .i64 X.hi, .slice ta X.tags.length tc] 70)).heap[B]? = some (.cells #[.string X.key, .int .i64 X.start, .int .i64 X.cnt, .int .i64 X.sum, .int .i64 X.lo, .int .i64 X.hi, .slice ta X.tags.length tc] 70 (0, 0))) := hi2
      clear hi2 hb2 HB0 hcf HTg HLc HBw l0 l1 l2 l3 l4 l5 l6 hlgw
      generalize wr.alloc (.cells #[.string X.key, .int .i64 X.start, .int .i64 X.cnt, .int .i64 X.sum, .int .i64 X.lo, .int .i64 X.hi, .slice ta X.tags.length tc] 70) = W2 at *
      go_cut [75] from 23 to 214 (fun s75 wx => s75 = .bool false ∧ ∃ m, wx = W2.drewN m)
      case first =>
        obtain ⟨b0, b1, b2, b3, b4, b5, b6, -⟩ := cells7At HI2.out
        have g0 : W2.cell? ⟨C, 0, none⟩ = some (.int .i64 size) := blkCell HC2.out rfl
        have g1 : W2.cell? ⟨C, 1, none⟩ = some (.int .i64 slide) := blkCell HC2.out rfl
        have hmz : X.start.tmod slide = 0 := Int.tmod_eq_zero_of_dvd HWin.out.2.2
        have hsn : ¬ slide = 0 := by omega
        by_cases h0 : i = 0
        · subst h0
          as_aux_lemma =>
            go_quiet (fail)
            go_wp2
            go_meet
            exact ⟨rfl, _, rfl⟩
        · have hi1 : i - 1 < ys.length := by omega
          have hy : ys[i - 1]? = some ys[i - 1] := List.getElem?_eq_getElem hi1
          have hp := HPr.out _ (by omega) hy
          have m0 := HLc2.out (i - 1) _ 0 hy (by omega)
          have m1 := HLc2.out (i - 1) _ 1 hy (by omega)
          generalize ys[i - 1] = Y at *
          simp only [wxCells, List.getElem?_cons_zero, List.getElem?_cons_succ, Nat.add_zero] at m0 m1
          have hk1 : IntKind.i64.wrap ((i : Int) - 1) = ((i - 1 : Nat) : Int) := by rw [IntKind.wrap_i64]; omega
          have hk5 : IntKind.i64.wrap (((i - 1 : Nat) : Int)) = ((i - 1 : Nat) : Int) := by rw [IntKind.wrap_i64]; omega
          have hk2 : ((i : Int) - 1) = ((i - 1 : Nat) : Int) := by omega
          have hpos : (0 : Int) < (i : Int) := by omega
          have hposN : 0 < i := by omega
          have hk3 : (0 : Int) ≤ ((i - 1 : Nat) : Int) := by omega
          have hk4 : ((i - 1 : Nat) : Int) < (nl : Int) := by omega
          obtain ⟨j, Hj⟩ : ∃ j, Hid (i - 1 = j) := ⟨_, rfl⟩
          rw [Hj.out] at hk1 hk2 hk3 hk4 hk5 m0 m1
          have hgt : ¬ X.start < Y.w.start := by omega
          by_cases heq : Y.w.start = X.start
          · have hbl : Op.bytesLess Y.w.key.toList X.key.toList = true := by
              rcases hp with h | h
              · omega
              · exact h.2
            clear hp
            as_aux_lemma =>
              go_quiet (fail)
              go_wp2
              go_meet
              exact ⟨rfl, _, rfl⟩
          · clear hp
            as_aux_lemma =>
              go_quiet (fail)
              go_wp2
              go_meet
              exact ⟨rfl, _, rfl⟩
      case rest =>
        obtain ⟨rfl, m, rfl⟩ := hcut
        have HI3 : Hid ((W2.drewN m).heap[B]? = some (.cells #[.string X.key, .int .i64 X.start, .int .i64 X.cnt, .int .i64 X.sum, .int .i64 X.lo, .int .i64 X.hi, .slice ta X.tags.length tc] 70 (0, 0))) := by show _ = _; simpa using HI2.out
        have HC3 : Hid ((W2.drewN m).heap[C]? = some (.cells #[.int .i64 size, .int .i64 slide, .int .i64 late, .int .i64 keys] 42 (0, 0))) := by show _ = _; simpa using HC2.out
        have HTg3 : Hid (Row (W2.drewN m) 26 1 (.slice ta X.tags.length tc) (X.tags.map tagV)) := HTg2.out.congr (fun k _ => by simp)
        have HB3 : Hid (Below w.heap.size w (W2.drewN m)) := below_drewN HB2.out m
        have HBv3 : Hid (Below W1.heap.size W1 (W2.drewN m)) := below_drewN HBv2.out m
        have hB3 : B < (W2.drewN m).heap.size := by simpa using hB2
        clear HI2 HC2 HTg2 HB2 HBv2 hB2 HLc2 HPr
        generalize W2.drewN m = W3 at *
        go_wp2_with fail
        go_loopw [10, 11, 12, 13, 14] (fun c10 c11 c12 c13 c14 wr => ∃ k : Nat, k ≤ ne ∧ c14 = .int .i64 (k : Int) ∧ c10 = .int .i64 ((((E.take k).filter (inWin X.key X.start size)).length : Nat) : Int) ∧ c11 = .int .i64 (sumV ((E.take k).filter (inWin X.key X.start size))) ∧ c12 = .bool (anyV X.lo ((E.take k).filter (inWin X.key X.start size))) ∧ c13 = .bool (anyV X.hi ((E.take k).filter (inWin X.key X.start size))) ∧ Below W3.heap.size W3 wr) (fun _ _ _ _ c14 _ => ne - (intOf c14).toNat)
        case atStart => exact ⟨0, Nat.zero_le _, rfl, rfl, by rw [List.take_zero, List.filter_nil, sumV_nil], rfl, rfl, Below.refl _ _⟩
        case round =>
          obtain ⟨k, hkn, rfl, rfl, rfl, rfl, rfl, hbv⟩ := hrel
          have hsv := hbv.size
          have HBx : Hid (Below W3.heap.size W3 wr) := hbv
          have HI4 : Hid (wr.heap[B]? = some (.cells #[.string X.key, .int .i64 X.start, .int .i64 X.cnt, .int .i64 X.sum, .int .i64 X.lo, .int .i64 X.hi, .slice ta X.tags.length tc] 70 (0, 0))) := blkBelow HI3.out hbv
          have HC4 : Hid (wr.heap[C]? = some (.cells #[.int .i64 size, .int .i64 slide, .int .i64 late, .int .i64 keys] 42 (0, 0))) := blkBelow HC3.out hbv
          clear hbv
          by_cases hke : k < ne
          · have hk' : k < E.length := by rw [Hne.out]; exact hke
            have hek : E[k]? = some E[k] := List.getElem?_eq_getElem hk'
            have HVs : Hid ((E.take (k + 1)).filter (inWin X.key X.start size) = if inWin X.key X.start size E[k] then (E.take k).filter (inWin X.key X.start size) ++ [E[k]] else (E.take k).filter (inWin X.key X.start size)) := filter_take1 _ hek
            have HVl : Hid (((E.take k).filter (inWin X.key X.start size)).length ≤ 1000) := by
              have h6 := List.length_filter_le (inWin X.key X.start size) (E.take k)
              rw [List.length_take] at h6
              show _ ≤ _
              omega
            have HEm : Hid (E[k] ∈ E) := List.getElem_mem hk'
            have het := HT.out E[k] (List.getElem_mem hk')
            obtain ⟨ig, io, rfl, hig, hic⟩ := HIt.out k _ hek
            have HIc : Hid (∀ j, j < 5 → wr.cell? ⟨ig, io + k * 5 + j, none⟩ = (evCells E[k])[j]?) := fun j hj => by
              rw [HBx.out.cell (p := ⟨ig, io + k * 5 + j, none⟩) (by show ig < _; have := HB3.out.size; omega), HB3.out.cell (p := ⟨ig, io + k * 5 + j, none⟩) hig]
              exact hic j hj
            have hVl := HVl.out
            clear hic hek
            generalize E[k] = e at *
            generalize (E.take k).filter (inWin X.key X.start size) = V at *
            have i0 := HIc.out 0 (by omega)
            have i1 := HIc.out 1 (by omega)
            have i2 := HIc.out 2 (by omega)
            have i3 := HIc.out 3 (by omega)
            have i4 := HIc.out 4 (by omega)
            simp only [evCells, List.getElem?_cons_zero, List.getElem?_cons_succ, Nat.add_zero] at i0 i1 i2 i3 i4
            go_upto_region 16 with fail
            have hj5 := heap_alloc_new wr (.cells #[.int .i64 1, .string e.key, .int .i64 e.t, .int .i64 e.v, .int .u32 (e.tag : Int)] 28)
            have hb5 : Below wr.heap.size wr (wr.alloc (.cells #[.int .i64 1, .string e.key, .int .i64 e.t, .int .i64 e.v, .int .u32 (e.tag : Int)] 28)) := (Below.refl _ wr).alloc (Nat.le_refl _) _
            have HI5 : Hid ((wr.alloc (.cells #[.int .i64 1, .string e.key, .int .i64 e.t, .int .i64 e.v, .int .u32 (e.tag : Int)] 28)).heap[B]? = some (.cells #[.string X.key, .int .i64 X.start, .int .i64 X.cnt, .int .i64 X.sum, .int .i64 X.lo, .int .i64 X.hi, .slice ta X.tags.length tc] 70 (0, 0))) := blkBelow HI4.out hb5
            have HC5 : Hid ((wr.alloc (.cells #[.int .i64 1, .string e.key, .int .i64 e.t, .int .i64 e.v, .int .u32 (e.tag : Int)] 28)).heap[C]? = some (.cells #[.int .i64 size, .int .i64 slide, .int .i64 late, .int .i64 keys] 42 (0, 0))) := blkBelow HC4.out hb5
            have HB5 : Hid (Below W3.heap.size W3 (wr.alloc (.cells #[.int .i64 1, .string e.key, .int .i64 e.t, .int .i64 e.v, .int .u32 (e.tag : Int)] 28))) := HBx.out.trans (hb5.mono hsv)
            obtain ⟨Q, HQ⟩ : ∃ Q, Hid (wr.heap.size = Q) := ⟨_, rfl⟩
            rw [HQ.out] at hj5 ⊢
            have HJ5 : Hid ((wr.alloc (.cells #[.int .i64 1, .string e.key, .int .i64 e.t, .int .i64 e.v, .int .u32 (e.tag : Int)] 28)).heap[Q]? = some (.cells #[.int .i64 1, .string e.key, .int .i64 e.t, .int .i64 e.v, .int .u32 (e.tag : Int)] 28 (0, 0))) := hj5
            clear hj5 hb5 HI4 HC4 HBx HIc i0 i1 i2 i3 i4
            generalize wr.alloc (.cells #[.int .i64 1, .string e.key, .int .i64 e.t, .int .i64 e.v, .int .u32 (e.tag : Int)] 28) = W4 at *
            have hst := HSt.out
            have hw1 : IntKind.i64.wrap (X.start + size) = X.start + size := by rw [IntKind.wrap_i64]; omega
            have hwk : IntKind.i64.wrap ((k : Int) + 1) = (k : Int) + 1 := by rw [IntKind.wrap_i64]; omega
            obtain ⟨b0, b1, b2, b3, b4, b5, b6, -⟩ := cells7At HI5.out
            obtain ⟨d0, d1, d2, d3, d4⟩ := itemAt HJ5.out
            have g0 : W4.cell? ⟨C, 0, none⟩ = some (.int .i64 size) := blkCell HC5.out rfl
            cases hin : inWin X.key X.start size e with
            | false =>
              have hV1 := HVs.out
              rw [hin] at hV1
              have HV1 : Hid ((E.take (k + 1)).filter (inWin X.key X.start size) = V) := by show _ = _; simpa using hV1
              clear hV1 HVs
              have hcase : (keyEq e.key X.key = false) ∨ (keyEq e.key X.key = true ∧ e.t < X.start) ∨ (keyEq e.key X.key = true ∧ ¬ e.t < X.start ∧ X.start + size ≤ e.t) := by
                cases hke : keyEq e.key X.key with
                | false => exact .inl rfl
                | true =>
                  right
                  unfold inWin at hin
                  rw [hke] at hin
                  simp only [Bool.true_and, Bool.and_eq_false_iff, decide_eq_false_iff_not] at hin
                  by_cases h7 : e.t < X.start
                  · exact .inl ⟨rfl, h7⟩
                  · exact .inr ⟨rfl, h7, by omega⟩
              clear hin
              rcases hcase with hkb | ⟨hkb, hlo⟩ | ⟨hkb, hlo, hhi⟩
              all_goals
                unfold keyEq at hkb
                as_aux_lemma =>
                  go_wp2_with fail
                  go_roundw
                  · exact ⟨k + 1, by omega, by go_num, by rw [HV1.out], by rw [HV1.out], by rw [HV1.out], by rw [HV1.out], HB5.out⟩
                  · simp [intOf]; omega
            | true =>
              have hV1 := HVs.out
              rw [hin] at hV1
              have HV1 : Hid ((E.take (k + 1)).filter (inWin X.key X.start size) = V ++ [e]) := by show _ = _; simpa using hV1
              have HEi : Hid (e ∈ evsIn size E X) := List.mem_filter.2 ⟨HEm.out, hin⟩
              have hin' := hin
              unfold inWin at hin'
              simp only [Bool.and_eq_true, decide_eq_true_eq] at hin'
              obtain ⟨hkb, hlo, hhi⟩ := hin'
              unfold keyEq at hkb
              have hlo' : ¬ e.t < X.start := by omega
              have hhi' : ¬ X.start + size ≤ e.t := by omega
              have hvl : IntKind.i64.wrap ((V.length : Int) + 1) = (V.length : Int) + 1 := by rw [IntKind.wrap_i64]; omega
              have HSu : Hid (wrap64 (sumV V + e.v) = sumV (V ++ [e])) := sumV_snoc V e
              clear hV1 HVs hin hlo hhi HEm
              go_upto_region 19 with fail
              go_cut [12] from 76 to 163 (fun s12 wx => s12 = .bool (anyV X.lo V || decide (e.v = X.lo)) ∧ wx = W4)
              case first =>
                cases hb : anyV X.lo V with
                | true =>
                  as_aux_lemma =>
                    go_wp2_with fail
                    go_meet
                    exact ⟨by rw [hb]; rfl, rfl⟩
                | false =>
                  as_aux_lemma =>
                    go_wp2_with fail
                    go_meet
                    exact ⟨by rw [hb]; rfl, rfl⟩
              case rest =>
                obtain ⟨rfl, hwc⟩ := hcut
                rw [hwc]
                clear hwc
                go_upto_region 20 with fail
                go_cut [13] from 76 to 163 (fun s13 wx => s13 = .bool (anyV X.hi V || decide (e.v = X.hi)) ∧ wx = W4)
                case first =>
                  cases hb : anyV X.hi V with
                  | true =>
                    as_aux_lemma =>
                      go_wp2_with fail
                      go_meet
                      exact ⟨by rw [hb]; rfl, rfl⟩
                  | false =>
                    as_aux_lemma =>
                      go_wp2_with fail
                      go_meet
                      exact ⟨by rw [hb]; rfl, rfl⟩
                case rest =>
                  obtain ⟨rfl, hwc⟩ := hcut
                  have HV2 : Hid ((anyV X.lo V || decide (e.v = X.lo)) = anyV X.lo (V ++ [e]) ∧ (anyV X.hi V || decide (e.v = X.hi)) = anyV X.hi (V ++ [e])) := ⟨(anyV_snoc _ _ _).symm, (anyV_snoc _ _ _).symm⟩
                  rw [HV2.out.1, HV2.out.2, HSu.out, hwc]
                  have HTg5 : Hid (Row W4 26 1 (.slice ta X.tags.length tc) (X.tags.map tagV)) := HTg3.out.below HB5.out (fun k hk => (HTg3.out.blk_lt hk).1)
                  have hni : ¬ e.v < X.lo ∧ ¬ X.hi < e.v := by
                    have h6 := HWin.out
                    have hFW : Fits (evsIn size E X) := fun x hx => HF.out x (List.mem_filter.1 hx).1
                    have h7 := (loV_spec _ hFW h6.2.1).1 e HEi.out
                    have h8 := (hiV_spec _ hFW h6.2.1).1 e HEi.out
                    rw [h6.1.lo h6.2.1, h6.1.hi h6.2.1]
                    omega
                  obtain ⟨hnl1, hnl2⟩ := hni
                  have HTm : Hid (e.tag ∈ X.tags) := (HWin.out.1.tags e.tag).2 ⟨e, HEi.out, rfl⟩
                  clear hwc HV2 HSu hkb hlo' hhi' b0 b1 b2 b3 b4 b5 b6 d0 d1 d2 d3 d4 g0
                  go_wp2_with fail
                  go_loopw [16, 17] (fun c16 c17 wr => ∃ j : Nat, j ≤ X.tags.length ∧ c17 = .int .i64 (j : Int) ∧ c16 = .bool ((X.tags.take j).any fun t => decide (t = e.tag)) ∧ ∃ m, wr = W4.drewN m) (fun _ c17 _ => X.tags.length - (intOf c17).toNat)
                  case atStart => exact ⟨0, Nat.zero_le _, rfl, rfl, 0, rfl⟩
                  case round =>
                    obtain ⟨j, hjt, rfl, rfl, m5, rfl⟩ := hrel
                    have hI5 : (W4.drewN m5).heap[B]? = some (.cells #[.string X.key, .int .i64 X.start, .int .i64 X.cnt, .int .i64 X.sum, .int .i64 X.lo, .int .i64 X.hi, .slice ta X.tags.length tc] 70 (0, 0)) := by simpa using HI5.out
                    have hJ5 : (W4.drewN m5).heap[Q]? = some (.cells #[.int .i64 1, .string e.key, .int .i64 e.t, .int .i64 e.v, .int .u32 (e.tag : Int)] 28 (0, 0)) := by simpa using HJ5.out
                    have HTg6 : Hid (Row (W4.drewN m5) 26 1 (.slice ta X.tags.length tc) (X.tags.map tagV)) := HTg5.out.congr (fun k _ => by simp)
                    have HB6 : Hid (Below W3.heap.size W3 (W4.drewN m5)) := below_drewN HB5.out _
                    obtain ⟨W6, HW6⟩ : ∃ W6, Hid (W4.drewN m5 = W6) := ⟨_, rfl⟩
                    rw [HW6.out] at hI5 hJ5 HTg6 HB6 ⊢
                    obtain ⟨b0, b1, b2, b3, b4, b5, b6, -⟩ := cells7At hI5
                    obtain ⟨d0, d1, d2, d3, d4⟩ := itemAt hJ5
                    clear hI5 hJ5
                    by_cases hjl : j < X.tags.length
                    · have htj : X.tags[j]? = some X.tags[j] := List.getElem?_eq_getElem hjl
                      have HAn : Hid ((X.tags.take (j + 1)).any (fun t => decide (t = e.tag)) = ((X.tags.take j).any (fun t => decide (t = e.tag)) || decide (X.tags[j] = e.tag))) := by
                        show _ = _
                        rw [List.take_succ_eq_append_getElem hjl, List.any_append]
                        simp
                      obtain ⟨tg, tof, rfl⟩ : ∃ g off, ta = some ⟨g, off, none⟩ := by
                        obtain ⟨g', off, n, cap, h5, -, -⟩ := HTg5.out.shape (fun h6 => by have := congrArg List.length h6; rw [List.length_map, List.length_nil] at this; omega)
                        simp only [Value.slice.injEq] at h5
                        exact ⟨g', off, h5.1⟩
                      have q0 : W6.cell? ⟨tg, tof + j, none⟩ = some (.int .u32 (X.tags[j] : Int)) := by
                        have h6 := HTg6.out.cell j (by rw [Nat.mul_one]; exact hjl)
                        rw [List.getElem?_map, htj] at h6
                        exact h6
                      clear htj
                      generalize X.tags[j] = tj at *
                      have hwj : IntKind.i64.wrap ((j : Int) + 1) = (j : Int) + 1 := by rw [IntKind.wrap_i64]; omega
                      cases hth : (X.tags.take j).any (fun t => decide (t = e.tag)) with
                      | true =>
                        as_aux_lemma =>
                          go_wp2_with fail
                          go_quiet (fail)
                          go_wp2
                          go_roundw
                          · exact ⟨j + 1, by omega, by go_num, by rw [HAn.out, hth]; rfl, m5 + nq, by rw [← HW6.out]; first | rfl | rw [World.drewN_drewN]⟩
                          · simp [intOf]; omega
                      | false =>
                        as_aux_lemma =>
                          go_wp2_with fail
                          go_quiet (fail)
                          go_wp2
                          go_roundw
                          · exact ⟨j + 1, by omega, by go_num, by rw [HAn.out, hth, Bool.false_or]; exact congrArg _ (by rw [Bool.eq_iff_iff, beq_iff_eq, decide_eq_true_eq]; omega), m5 + nq, by rw [← HW6.out]; first | rfl | rw [World.drewN_drewN]⟩
                          · simp [intOf]; omega
                    · have hje : j = X.tags.length := by omega
                      have HTr : Hid ((X.tags.take j).any (fun t => decide (t = e.tag)) = true) := by
                        show _ = _
                        rw [hje, List.take_length, List.any_eq_true]
                        exact ⟨e.tag, HTm.out, decide_eq_true rfl⟩
                      rw [HTr.out]
                      clear hje
                      as_aux_lemma =>
                        go_wp2_with fail
                        go_roundw
                        · exact ⟨k + 1, by omega, by go_num, by rw [HV1.out, List.length_append]; rfl, by rw [HV1.out], by rw [HV1.out], by rw [HV1.out], HB6.out⟩
                        · simp [intOf]; omega
          · have hV : (E.take k).filter (inWin X.key X.start size) = evsIn size E X := by
              rw [List.take_of_length_le (by rw [Hne.out]; omega)]; rfl
            rw [hV]
            have HTg5 : Hid (Row wr 26 1 (.slice ta X.tags.length tc) (X.tags.map tagV)) := HTg3.out.below HBx.out (fun k hk => (HTg3.out.blk_lt hk).1)
            have HB6 : Hid (Below W1.heap.size W1 wr) := HBv3.out.trans (HBx.out.mono HBv3.out.size)
            have HRi : Hid (X.tags.Pairwise (· < ·)) := HWin.out.1.rise
            have htn := HWin.out.1.tagsLen
            have hcnt := HWin.out.1.cnt
            have hsum := HWin.out.1.sum
            have hne0 : (evsIn size E X).length ≠ 0 := fun h6 => HWin.out.2.1 (List.length_eq_zero_iff.1 h6)
            have hFW : Fits (evsIn size E X) := fun x hx => HF.out x (List.mem_filter.1 hx).1
            have hal : anyV X.lo (evsIn size E X) = true := by
              obtain ⟨x, hx, h7⟩ := (loV_spec _ hFW HWin.out.2.1).2
              rw [HWin.out.1.lo HWin.out.2.1, h7]
              exact List.any_eq_true.2 ⟨x, hx, decide_eq_true rfl⟩
            have hah : anyV X.hi (evsIn size E X) = true := by
              obtain ⟨x, hx, h7⟩ := (hiV_spec _ hFW HWin.out.2.1).2
              rw [HWin.out.1.hi HWin.out.2.1, h7]
              exact List.any_eq_true.2 ⟨x, hx, decide_eq_true rfl⟩
            rw [hal, hah, ← hsum, ← hcnt]
            have hts := HTs.out
            have HTs2 : Hid ((((ys.map WinX.w).take (i + 1)).map fun x => (evsIn size E x).length).sum = tot + (evsIn size E X).length ∧ ((evsIn size E X).length : Int) = X.cnt) := ⟨hts.1, hcnt.symm⟩
            have hc0 : ¬ X.cnt = 0 := by omega
            have hc1 : ¬ X.cnt < (X.tags.length : Int) := by omega
            have hc2 : (X.cnt == 0) = false := by simpa using hc0
            have hc3 : (X.tags.length : Int) ≤ X.cnt := by omega
            have hwt : IntKind.i64.wrap ((tot : Int) + X.cnt) = (tot : Int) + X.cnt := by rw [IntKind.wrap_i64]; omega
            have hwi : IntKind.i64.wrap ((i : Int) + 1) = (i : Int) + 1 := by rw [IntKind.wrap_i64]; omega
            clear hV htn hcnt hsum hne0 hFW hal hah hts HC4 HBx hsv HTs HWin
            generalize wr = W5 at *
            go_wp2_with fail
            go_loopw [18] (fun c18 wr => ∃ p : Nat, (p + 1 ≤ X.tags.length ∨ p = 0) ∧ c18 = .int .i64 ((p : Int) + 1) ∧ ∃ m, wr = W5.drewN m) (fun c18 _ => X.tags.length + 1 - (intOf c18).toNat)
            case atStart => exact ⟨0, .inr rfl, rfl, 0, rfl⟩
            case round =>
              obtain ⟨p, hp1, rfl, m6, rfl⟩ := hrel
              have hI6 : (W5.drewN m6).heap[B]? = some (.cells #[.string X.key, .int .i64 X.start, .int .i64 X.cnt, .int .i64 X.sum, .int .i64 X.lo, .int .i64 X.hi, .slice ta X.tags.length tc] 70 (0, 0)) := by simpa using HI4.out
              have HTg6 : Hid (Row (W5.drewN m6) 26 1 (.slice ta X.tags.length tc) (X.tags.map tagV)) := HTg5.out.congr (fun k _ => by simp)
              have HB7 : Hid (Below W1.heap.size W1 (W5.drewN m6)) := below_drewN HB6.out _
              obtain ⟨W6, HW6⟩ : ∃ W6, Hid (W5.drewN m6 = W6) := ⟨_, rfl⟩
              rw [HW6.out] at hI6 HTg6 HB7 ⊢
              obtain ⟨b0, b1, b2, b3, b4, b5, b6, -⟩ := cells7At hI6
              clear hI6
              by_cases hpl : p + 1 < X.tags.length
              · have hlt' : X.tags[p]'(by omega) < X.tags[p + 1] := List.pairwise_iff_getElem.1 HRi.out p (p + 1) (by omega) hpl (by omega)
                obtain ⟨tg, tof, rfl⟩ : ∃ g off, ta = some ⟨g, off, none⟩ := by
                  obtain ⟨g', off, n, cap, h5, -, -⟩ := HTg5.out.shape (fun h6 => by have := congrArg List.length h6; rw [List.length_map, List.length_nil] at this; omega)
                  simp only [Value.slice.injEq] at h5
                  exact ⟨g', off, h5.1⟩
                have q0 : W6.cell? ⟨tg, tof + p, none⟩ = some (.int .u32 (X.tags[p]'(by omega) : Int)) := by
                  have h6 := HTg6.out.cell p (by rw [Nat.mul_one]; omega)
                  rw [List.getElem?_map, List.getElem?_eq_getElem (by omega)] at h6
                  exact h6
                have q1 : W6.cell? ⟨tg, tof + (p + 1), none⟩ = some (.int .u32 (X.tags[p + 1] : Int)) := by
                  have h6 := HTg6.out.cell (p + 1) (by rw [Nat.mul_one]; omega)
                  rw [List.getElem?_map, List.getElem?_eq_getElem hpl] at h6
                  exact h6
                generalize X.tags[p]'(by omega) = t0 at *
                generalize X.tags[p + 1] = t1 at *
                have hwp : IntKind.i64.wrap (p : Int) = (p : Int) := by rw [IntKind.wrap_i64]; omega
                have hwq : IntKind.i64.wrap ((p : Int) + 1 + 1) = (p : Int) + 1 + 1 := by rw [IntKind.wrap_i64]; omega
                have hpi : (p : Int) + 1 < (X.tags.length : Int) := by omega
                have hpi0 : (p : Int) < (X.tags.length : Int) := by omega
                have hnt : ¬ t1 ≤ t0 := by omega
                clear hp1
                as_aux_lemma =>
                  go_wp2_with fail
                  go_quiet (fail)
                  go_wp2
                  go_roundw
                  · exact ⟨p + 1, .inl (by omega), by go_num, m6 + nq, by rw [← HW6.out]; first | rfl | rw [World.drewN_drewN]⟩
                  · simp [intOf]; omega
              · have hpi : ¬ (p : Int) + 1 < (X.tags.length : Int) := by omega
                clear hp1
                as_aux_lemma =>
                  go_wp2_with fail
                  go_roundw
                  · exact ⟨i + 1, by omega, by go_num, by rw [HTs2.out.1, ← HTs2.out.2]; rfl, HB7.out⟩
                  · simp [intOf]; omega
    · have hie : i = nl := by omega
      have hTt : ((((ys.map WinX.w).take i).map fun x => (evsIn size E x).length).sum : Nat) = (E.map fun e => cntS size slide e.t size.toNat).sum := by
        rw [List.take_of_length_le (by rw [List.length_map, Hnl.out]; omega)]
        exact HA.out.total h1 h3
      have HTb : Hid ((E.map fun e => cntS size slide e.t size.toNat).sum ≤ 2000000) := by
        show _ ≤ _
        rw [← HA.out.total h1 h3]; exact HTot.out
      rw [hTt]
      have HTl : Hid (∀ k, ((E.take k).map fun e => cntS size slide e.t size.toNat).sum ≤ (E.map fun e => cntS size slide e.t size.toNat).sum) := fun k => sum_take_le _ k E
      have HTe : Hid (((E.take ne).map fun e => cntS size slide e.t size.toNat).sum = (E.map fun e => cntS size slide e.t size.toNat).sum) := by
        show _ = _
        rw [List.take_of_length_le (by rw [Hne.out]; omega)]
      generalize (E.map fun e => cntS size slide e.t size.toNat).sum = TN at *
      have hTb := HTb.out
      have HC4 : Hid (wr.heap[C]? = some (.cells #[.int .i64 size, .int .i64 slide, .int .i64 late, .int .i64 keys] 42 (0, 0))) := hcf
      have g0 : wr.cell? ⟨C, 0, none⟩ = some (.int .i64 size) := blkCell HC4.out rfl
      have g1 : wr.cell? ⟨C, 1, none⟩ = some (.int .i64 slide) := blkCell HC4.out rfl
      clear hTt hcf HTot
      generalize wr = W5 at *
      go_wp2_with fail
      go_loopw [19, 20] (fun c19 c20 wr => ∃ k : Nat, k ≤ ne ∧ c20 = .int .i64 (k : Int) ∧ c19 = .int .i64 ((((E.take k).map fun e => cntS size slide e.t size.toNat).sum : Nat) : Int) ∧ W5 = wr) (fun _ c20 _ => ne - (intOf c20).toNat)
      case atStart => exact ⟨0, Nat.zero_le _, rfl, rfl, rfl⟩
      case round =>
        obtain ⟨k, hkn, rfl, rfl, hww⟩ := hrel
        subst hww
        by_cases hke : k < ne
        · have hk' : k < E.length := by rw [Hne.out]; exact hke
          have hek : E[k]? = some E[k] := List.getElem?_eq_getElem hk'
          have HSs : Hid (((E.take (k + 1)).map fun e => cntS size slide e.t size.toNat).sum = ((E.take k).map fun e => cntS size slide e.t size.toNat).sum + cntS size slide E[k].t size.toNat) := sum_take_succ _ hek
          have hbd := HTl.out (k + 1)
          rw [HSs.out] at hbd
          have het := HT.out E[k] (List.getElem_mem hk')
          obtain ⟨ig, io, rfl, hig, hic⟩ := HIt.out k _ hek
          have i2 : W5.cell? ⟨ig, io + k * 5 + 2, none⟩ = some (.int .i64 E[k].t) := by
            rw [HB0.out.cell (p := ⟨ig, io + k * 5 + 2, none⟩) hig]
            exact hic 2 (by omega)
          clear hic hek
          generalize E[k] = e at *
          generalize ((E.take k).map fun e => cntS size slide e.t size.toNat).sum = A at *
          have hw1 : IntKind.i64.wrap (e.t - size) = e.t - size := by rw [IntKind.wrap_i64]; omega
          have hw2 : IntKind.i64.wrap (e.t - size + 1) = e.t - size + 1 := by rw [IntKind.wrap_i64]; omega
          have hwk : IntKind.i64.wrap ((k : Int) + 1) = (k : Int) + 1 := by rw [IntKind.wrap_i64]; omega
          go_wp2_with fail
          go_loopw [19, 22] (fun c19 c22 wr => ∃ j : Nat, j ≤ size.toNat ∧ c22 = .int .i64 (e.t - size + 1 + (j : Int)) ∧ c19 = .int .i64 (((A + cntS size slide e.t j : Nat)) : Int) ∧ W5 = wr) (fun _ c22 _ => (e.t + 1 - intOf c22).toNat)
          case atStart => exact ⟨0, Nat.zero_le _, by go_num, rfl, rfl⟩
          case round =>
            obtain ⟨j, hjz, rfl, rfl, hww⟩ := hrel
            subst hww
            have hcl := cntS_le size slide e.t j
            by_cases hjl : j < size.toNat
            · have HSc : Hid (cntS size slide e.t (j + 1) = cntS size slide e.t j + if (e.t - size + 1 + (j : Int)).tmod slide = 0 then 1 else 0) := cntS_succ size slide e.t j
              have HSe : Hid (e.t - size + 1 + ((j + 1 : Nat) : Int) = e.t - size + 1 + (j : Int) + 1) := by show _ = _; omega
              have hsl : e.t - size + 1 + (j : Int) ≤ e.t := by omega
              have hw3 : IntKind.i64.wrap (e.t - size + 1 + (j : Int) + 1) = e.t - size + 1 + (j : Int) + 1 := by rw [IntKind.wrap_i64]; omega
              have hms : (e.t + 1 - (e.t - size + 1 + (j : Int) + 1)).toNat < (e.t + 1 - (e.t - size + 1 + (j : Int))).toNat := by omega
              have HMs : Hid ((e.t + 1 - (e.t - size + 1 + (j : Int) + 1)).toNat < (e.t + 1 - (e.t - size + 1 + (j : Int))).toNat) := hms
              generalize e.t - size + 1 + (j : Int) = s at *
              generalize cntS size slide e.t j = cj at *
              have hw4 : IntKind.i64.wrap ((A : Int) + (cj : Int) + 1) = (A : Int) + (cj : Int) + 1 := by rw [IntKind.wrap_i64]; omega
              have hsn : ¬ slide = 0 := by omega
              clear hms
              by_cases hz : s.tmod slide = 0
              · have HZ : Hid (cntS size slide e.t (j + 1) = cj + 1) := by show _ = _; rw [HSc.out, if_pos hz]
                as_aux_lemma =>
                  go_wp2_with fail
                  go_roundw
                  · exact ⟨j + 1, by omega, by rw [HSe.out], by rw [HZ.out]; go_num, trivial⟩
                  · exact HMs.out
              · have HZ : Hid (cntS size slide e.t (j + 1) = cj) := by show _ = _; rw [HSc.out, if_neg hz]; rfl
                have hzb : (s.tmod slide == 0) = false := by simpa using hz
                as_aux_lemma =>
                  go_wp2_with fail
                  go_roundw
                  · exact ⟨j + 1, by omega, by rw [HSe.out], by rw [HZ.out], trivial⟩
                  · exact HMs.out
            · have hje : j = size.toNat := by omega
              have hnl' : ¬ e.t - size + 1 + (j : Int) ≤ e.t := by omega
              have HZ : Hid (A + cntS size slide e.t j = ((E.take (k + 1)).map fun e => cntS size slide e.t size.toNat).sum) := by
                show _ = _
                rw [hje]; exact HSs.out.symm
              rw [HZ.out]
              clear hje
              generalize e.t - size + 1 + (j : Int) = s at *
              as_aux_lemma =>
                go_wp2_with fail
                go_roundw
                · exact ⟨k + 1, by omega, by go_num, rfl, trivial⟩
                · simp [intOf]; omega
        · have hkk : k = ne := by omega
          have HEq : Hid (((E.take k).map fun e => cntS size slide e.t size.toNat).sum = TN) := by
            show _ = _
            rw [hkk]; exact HTe.out
          rw [HEq.out]
          clear hkk
          as_aux_lemma =>
            go_wp2_with fail
            go_ret
            exact ⟨rfl, HB0.out⟩
end Go.Proofs.YtcfngdnmpogaoaaGreat
