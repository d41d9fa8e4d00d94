import Derived.Test.YtcfngdnmpogaoaaGreatPcA03
namespace Go.Proofs.YtcfngdnmpogaoaaGreat
open Go.RowKit

theorem wrap_nat {n : Nat} (h : n < 4611686018427387904) : IntKind.i64.wrap (n : Int) = (n : Int) := by rw [IntKind.wrap_i64]; omega
set_option maxRecDepth 20000 in
set_option maxHeartbeats 6400000 in
theorem pieces_any (HRis : RisingOk) (HSo : SortOk) (HKn : ∀ w, Calls Tryz.prog 14 #[] w fun e w' => e = .returned (.bool true) ∧ Below w.heap.size w w')
    (a b c d : Int) (ha : i64B a) (hb : i64B b) (hc : i64B c) (hd : i64B d) (ev cv : Value) (evs : List RawE) (cuts : List Int) (odd : ByteArray) (w : World) (hev : EvsAt w ev evs) (hcv : IntsAt w cv cuts)
    (hef : ∀ e ∈ evs, e.Fits) (hcf : ∀ x ∈ cuts, i64B x) (_hel : evs.length ≤ 1000000000000) (hcl : cuts.length ≤ 1000000000000) (ho : odd.size ≤ 2000000) :
    Calls Tryz.prog 9 #[.agg #[.int .i64 a, .int .i64 b, .int .i64 c, .int .i64 d], ev, cv, .string odd] w fun e w' => e = .returned (.bool true) ∧ Below w.heap.size w w' := by
  obtain ⟨i8, hi, hz0, hz1, hz2⟩ := info_parts info5
  obtain ⟨ea, ecap, rfl, hev⟩ := hev
  obtain ⟨ca, ccap, rfl, hcv⟩ := hcv
  have HEv : Hid (∀ i (h : i < evs.length), ∃ b off, ea = some ⟨b, off, none⟩ ∧ b < w.heap.size ∧ ∀ j, j < 4 → w.cell? ⟨b, off + (i * 4 + j), none⟩ = (evs[i]).cells[j]?) := hev
  have HCv : Hid (∀ i (h : i < cuts.length), ∃ b off, ca = some ⟨b, off, none⟩ ∧ b < w.heap.size ∧ w.cell? ⟨b, off + i, none⟩ = some (.int .i64 cuts[i])) := hcv
  have HEf : Hid (∀ e ∈ evs, e.Fits) := hef
  have HCf : Hid (∀ x ∈ cuts, i64B x) := hcf
  clear hev hcv hef hcf
  have hCfg := fun W => config_any a b c d W ha hb hc hd
  clear ha hb hc hd
  obtain ⟨ne, Hne⟩ : ∃ n, Hid (evs.length = n) := ⟨_, rfl⟩
  obtain ⟨nc, Hnc⟩ : ∃ n, Hid (cuts.length = n) := ⟨_, rfl⟩
  rw [Hne.out]
  rw [Hnc.out] at hcl ⊢
  go_enter Tryz.func9, Tryz.ntmps9
  go_upto_region 1 with fail
  have hi1 := heap_alloc_new w (.cells #[.int .i64 a, .int .i64 b, .int .i64 c, .int .i64 d] 39)
  have B1 : Hid (Below w.heap.size w (w.alloc (.cells #[.int .i64 a, .int .i64 b, .int .i64 c, .int .i64 d] 39))) := (Below.refl _ w).alloc (Nat.le_refl _) _
  generalize w.alloc (.cells #[.int .i64 a, .int .i64 b, .int .i64 c, .int .i64 d] 39) = W1 at *
  go_wp2_with fail
  refine (HKn W1).mono ?_
  rintro e W2 ⟨rfl, hb2⟩
  have hi2 := blkBelow hi1 hb2
  have B2 : Hid (Below w.heap.size w W2) := B1.out.trans (hb2.mono B1.out.size)
  clear hi1 hb2 B1 HKn
  have s0 : W2.cell? ⟨w.heap.size, 0, none⟩ = some (.int .i64 a) := blkCell hi2 rfl
  have s1 : W2.cell? ⟨w.heap.size, 1, none⟩ = some (.int .i64 b) := blkCell hi2 rfl
  have s2 : W2.cell? ⟨w.heap.size, 2, none⟩ = some (.int .i64 c) := blkCell hi2 rfl
  have s3 : W2.cell? ⟨w.heap.size, 3, none⟩ = some (.int .i64 d) := blkCell hi2 rfl
  go_wp2_with fail
  refine (hCfg W2).mono ?_
  rintro e W3 ⟨size, slide, late, keys, rfl, hcfg, hb3⟩
  have hcf := hcfg.conf
  have hok := hcfg.ok
  have HC : Hid (CfgOk size slide late keys) := hcfg
  have B3 : Hid (Below w.heap.size w W3) := B2.out.trans (hb3.mono B2.out.size)
  clear s0 s1 s2 s3 hi2 hb3 B2 hCfg hcfg
  have HFl : Hid (∀ W, Calls Tryz.prog 19 #[.agg #[.int .i64 size, .int .i64 slide, .int .i64 late, .int .i64 keys]] W fun e w' => ∃ g, W.heap.size ≤ g ∧ e = .returned (.pointer (some ⟨g, 0, none⟩)) ∧ FlowOn w' g ⟨size, slide, late, keys⟩ (Sp.new.open 0) (List.replicate 8 []) (fun k => W.heap.size ≤ k) none ∧ Below W.heap.size W w') := fun W => flow_on size slide late keys W hcf
  unfold confV
  go_upto_region 3 with fail
  have hi4 := heap_alloc_new W3 (.cells #[.int .i64 size, .int .i64 slide, .int .i64 late, .int .i64 keys] 42)
  have B4 : Hid (Below w.heap.size w (W3.alloc (.cells #[.int .i64 size, .int .i64 slide, .int .i64 late, .int .i64 keys] 42))) := B3.out.alloc B3.out.size _
  have hbc : w.heap.size ≤ W3.heap.size := B3.out.size
  obtain ⟨C, HCeq⟩ : ∃ C, Hid (W3.heap.size = C) := ⟨_, rfl⟩
  rw [HCeq.out] at hi4 hbc ⊢
  generalize W3.alloc (.cells #[.int .i64 size, .int .i64 slide, .int .i64 late, .int .i64 keys] 42) = W4 at *
  have c0 : W4.cell? ⟨C, 0, none⟩ = some (.int .i64 size) := blkCell hi4 rfl
  have c1 : W4.cell? ⟨C, 1, none⟩ = some (.int .i64 slide) := blkCell hi4 rfl
  have c2 : W4.cell? ⟨C, 2, none⟩ = some (.int .i64 late) := blkCell hi4 rfl
  have c3 : W4.cell? ⟨C, 3, none⟩ = some (.int .i64 keys) := blkCell hi4 rfl
  have HI4 : Hid (W4.heap[C]? = some (.cells #[.int .i64 size, .int .i64 slide, .int .i64 late, .int .i64 keys] 42 (0, 0))) := hi4
  clear hi4 B3
  go_wp2_with fail
  refine (HFl.out W4).mono ?_
  rintro e W5 ⟨f, hf5, rfl, hF5, hb5⟩
  have hi5 := blkBelow HI4.out hb5
  have c0 : W5.cell? ⟨C, 0, none⟩ = some (.int .i64 size) := blkCell hi5 rfl
  have c1 : W5.cell? ⟨C, 1, none⟩ = some (.int .i64 slide) := blkCell hi5 rfl
  have c2 : W5.cell? ⟨C, 2, none⟩ = some (.int .i64 late) := blkCell hi5 rfl
  have c3 : W5.cell? ⟨C, 3, none⟩ = some (.int .i64 keys) := blkCell hi5 rfl
  have HF5 : Hid (FlowOn W5 f ⟨size, slide, late, keys⟩ (Sp.new.open 0) (List.replicate 8 []) (fun k => W4.heap.size ≤ k) none) := hF5
  have Hb5 : Hid (Below W4.heap.size W4 W5) := hb5
  clear hi5 hF5 hb5 HI4
  go_wp2_with fail
  refine (HFl.out W5).mono ?_
  rintro e W6 ⟨g, hg6, rfl, hF6, hb6⟩
  have B6 : Hid (Below w.heap.size w W6) := B4.out.trans ((Hb5.out.mono B4.out.size).trans (hb6.mono (by have := B4.out.size; have := Hb5.out.size; omega)))
  have HD : Hid (Duo w.heap.size (fun _ => False) W6 f g ⟨size, slide, late, keys⟩ (Sp.new.open 0, List.replicate 8 [], none) (Sp.new.open 0, List.replicate 8 [], none)) := Duo.start HF5.out hF6 hb6 B4.out.size Hb5.out.size
  clear hb6 hF6 HF5 Hb5 B4 c0 c1 c2 c3 HFl hf5 hg6
  go_wp2_with fail
  go_loopw [13, 14] (fun v i wr => ∃ k : Nat, k ≤ 60 ∧ k ≤ ne ∧ i = .int .i64 (k : Int) ∧ Row wr 5 1 v ((evsB (evs.take k)).map byteV) ∧ (∀ g, v.ownBlock = some g → W6.heap.size ≤ g) ∧ Below W6.heap.size W6 wr) (fun _ i _ => 60 - (intOf i).toNat)
  case atStart => exact ⟨0, Nat.zero_le _, Nat.zero_le _, rfl, Row.nil _ _ _, fun g hg => (by simp [Value.ownBlock] at hg), Below.refl _ _⟩
  case round =>
    obtain ⟨k, hk60, hkn, rfl, hrow, hblk, hbw⟩ := hrel
    have HRow : Hid (Row wr 5 1 u13 ((evsB (evs.take k)).map byteV)) := hrow
    have HBlk : Hid (∀ g, u13.ownBlock = some g → W6.heap.size ≤ g) := hblk
    have HBw : Hid (Below W6.heap.size W6 wr) := hbw
    clear hrow hblk hbw
    by_cases hin : k < ne ∧ k < 60
    · obtain ⟨hin1, hin2⟩ := hin
      have hk : k < evs.length := by rw [Hne.out]; exact hin1
      have hfit := HEf.out evs[k] (List.getElem_mem hk)
      have hEB := hfit.evB
      have hbl := evB_len hEB
      have hll := evsB_len (evs.take k) (fun e he => HEf.out e (List.mem_of_mem_take he))
      have hll := hll.1
      rw [List.length_take] at hll
      obtain ⟨eb, eo, rfl, heb, hcell⟩ := HEv.out k hk
      have hcell : ∀ j, j < 4 → wr.cell? ⟨eb, eo + (k * 4 + j), none⟩ = (evs[k]).cells[j]? := fun j hj => by
        rw [HBw.out.cell (p := ⟨eb, eo + (k * 4 + j), none⟩) (by have := B6.out.size; show eb < _; omega), B6.out.cell (p := ⟨eb, eo + (k * 4 + j), none⟩) heb]; exact hcell j hj
      have e0 := hcell 0 (by omega)
      have e1 := hcell 1 (by omega)
      have e2 := hcell 2 (by omega)
      have e3 := hcell 3 (by omega)
      have HTk : Hid (evsB (evs.take (k + 1)) = evsB (evs.take k) ++ evB (evs[k]).ev) := evsB_take evs k hk
      have HIt : Hid (∀ W, Calls Tryz.prog 23 #[.agg #[.int .i64 evs[k].k, .int .i64 evs[k].t, .int .i64 evs[k].v, .int .u32 (evs[k].tag : Int)]] W fun e w' => e = .returned (evItemV evs[k].ev) ∧ Below W.heap.size W w') := fun W => item_any evs[k].k evs[k].t evs[k].v evs[k].tag W hfit.k hfit.t
      have HFr : Hid (∀ W, Calls Tryz.prog 15 #[evItemV evs[k].ev] W fun e w' => ∃ v', e = .returned (.tuple #[v', .int .i64 0]) ∧ Row w' 5 1 v' ((evB evs[k].ev).map byteV) ∧ (∀ g, v'.ownBlock = some g → W.heap.size ≤ g) ∧ Below W.heap.size W w') := fun W => frame_yes 1 evs[k].ev.key evs[k].ev.t evs[k].ev.v evs[k].ev.tag W (by have := hEB.k2; omega) hEB.item hEB.tg
      clear hcell hfit hEB
      generalize evs[k].ev = EV at *
      obtain ⟨rk, rt, rv, rtag⟩ := evs[k]
      simp only [RawE.cells, List.getElem?_toArray, List.getElem?_cons_zero, List.getElem?_cons_succ, Nat.add_zero, ← Nat.add_assoc] at e0 e1 e2 e3 HIt
      go_wp2_with fail
      refine (HIt.out wr).mono ?_
      rintro e Wa ⟨rfl, hba⟩
      have Hba : Hid (Below wr.heap.size wr Wa) := hba
      clear hba HIt e0 e1 e2 e3
      go_wp2_with fail
      refine (HFr.out Wa).mono ?_
      rintro e Wb ⟨bv, rfl, hrb, hgb, hbb⟩
      have HBb : Hid (Below wr.heap.size wr Wb) := Hba.out.trans (hbb.mono Hba.out.size)
      have HRb : Hid (Row Wb 5 1 bv ((evB EV).map byteV)) := hrb
      have HRw : Hid (Row Wb 5 1 u13 ((evsB (evs.take k)).map byteV)) := HRow.out.below HBb.out (fun j hj => (HRow.out.blk_lt hj).1)
      have hWw : W6.heap.size ≤ wr.heap.size := HBw.out.size
      have hsz := HBb.out.size
      have S3 : Src Tryz.prog 1 30 bv (evB EV).length ((evB EV).map byteV) Wb := by
        have := Row.src (P := Tryz.prog) _ HRb.out (oneCell_bytes (evB EV)) Tryz.underlying30
        rw [List.length_map] at this; exact this
      obtain ⟨va, vc, hva, hvc⟩ := HRw.out.slice
      obtain ⟨ba, bc, hba, hbc'⟩ := HRb.out.slice
      rw [List.length_map] at hva hba hvc hbc'
      obtain ⟨n1, hn1, Hn1⟩ : ∃ n, (evsB (evs.take k)).length = n ∧ Hid ((evsB (evs.take k)).length = n) := ⟨_, rfl, rfl⟩
      obtain ⟨n2, hn2, Hn2⟩ : ∃ n, (evB EV).length = n ∧ Hid ((evB EV).length = n) := ⟨_, rfl, rfl⟩
      rw [hn1] at hva hvc hll
      rw [hn2] at hba hbc' hbl S3
      subst hva
      subst hba
      clear hn1 hn2
      have HvB : Hid (∀ g, (Value.slice va n1 vc).ownBlock = some g → W6.heap.size ≤ g) := HBlk.out
      clear hrb hgb hbb Hba HFr HRow HBlk
      go_wp2_with (at_builtin; go_must (refine wpList_append _ rfl _ _ _ _ rfl 5 i8 (.int .u8 0) 1 1 Tryz.underlying30 hi hz0 hz1 hz2 rfl Nat.one_pos (.slice va n1 vc) ((evsB (evs.take k)).map byteV) rfl HRw.out (.slice ba n2 bc) n2 ((evB EV).map byteV) rfl S3 ?hm ?h63 ?hby ?next))
      case hm => omega
      case h63 => rw [List.length_map, Hn1.out]; simp only [maxLen]; omega
      case hby => rw [List.length_map, Hn1.out]; omega
      intro a4 W4' ha4
      have r4 := ha4.row
      have b4 := ha4.below (B := W6.heap.size) HvB.out (by omega)
      have g4 := ha4.blk (B := W6.heap.size) HvB.out (by omega)
      have HR4 : Hid (Row W4' 5 1 a4 ((evsB (evs.take (k + 1))).map byteV)) := by
        show Row _ _ _ _ _
        rw [HTk.out, List.map_append]; exact r4
      have HG4 : Hid (∀ g, a4.ownBlock = some g → W6.heap.size ≤ g) := g4
      have HB4 : Hid (Below W6.heap.size W6 W4') := (HBw.out.trans (HBb.out.mono hWw)).trans b4
      clear ha4 r4 b4 g4 HRw HRb S3 HBb HBw HvB HTk hvc hbc'
      go_wp2_with fail
      go_roundw
      case rel => exact ⟨k + 1, by omega, by omega, by go_num, HR4.out, HG4.out, HB4.out⟩
      case measure => simp [intOf]; omega
    · have HLf : Hid (∀ e ∈ evs.take k, e.Fits) := fun e he => HEf.out e (List.mem_of_mem_take he)
      have hlk : (evs.take k).length ≤ 60 := by rw [List.length_take]; omega
      have hll := evsB_len (evs.take k) HLf.out
      generalize evs.take k = LE at *
      have hcase : (k < ne ∧ ¬ k < 60) ∨ ¬ k < ne := by omega
      clear hin
      rcases hcase with ⟨hin1, hin2⟩ | hin1
      all_goals
        go_wp2_with fail
        refine (mark_any 9999 wr).mono ?_
        rintro e Wa ⟨bv, rfl, hrb, hgb, hbb⟩
        have HRb : Hid (Row Wa 5 1 bv ((markB 9999).map byteV)) := hrb
        have HRw : Hid (Row Wa 5 1 u13 ((evsB LE).map byteV)) := HRow.out.below hbb (fun j hj => (HRow.out.blk_lt hj).1)
        have HBa : Hid (Below W6.heap.size W6 Wa) := HBw.out.trans (hbb.mono HBw.out.size)
        have hWa : W6.heap.size ≤ Wa.heap.size := HBa.out.size
        have S3 : Src Tryz.prog 1 30 bv (markB 9999).length ((markB 9999).map byteV) Wa := by
          have := Row.src (P := Tryz.prog) _ HRb.out (oneCell_bytes (markB 9999)) Tryz.underlying30
          rw [List.length_map] at this; exact this
        obtain ⟨va, vc, hva, hvc⟩ := HRw.out.slice
        obtain ⟨ba, bc, hba, hbc'⟩ := HRb.out.slice
        rw [List.length_map] at hva hba hvc hbc'
        have hml : (markB 9999).length = 12 := by decide
        obtain ⟨n1, hn1, Hn1⟩ : ∃ n, (evsB LE).length = n ∧ Hid ((evsB LE).length = n) := ⟨_, rfl, rfl⟩
        have Hml : Hid ((markB 9999).length = 12) := hml
        rw [hn1] at hva hvc hll
        rw [hml] at hba hbc' S3
        subst hva
        subst hba
        clear hn1 hml
        have HvB : Hid (∀ g, (Value.slice va n1 vc).ownBlock = some g → W6.heap.size ≤ g) := HBlk.out
        clear hrb hgb hbb HRow HBlk HBw
        go_wp2_with (at_builtin; go_must (refine wpList_append _ rfl _ _ _ _ rfl 5 i8 (.int .u8 0) 1 1 Tryz.underlying30 hi hz0 hz1 hz2 rfl Nat.one_pos (.slice va n1 vc) ((evsB LE).map byteV) rfl HRw.out (.slice ba 12 bc) 12 ((markB 9999).map byteV) rfl S3 ?_ ?_ ?_ ?_))
        · omega
        · rw [List.length_map, Hn1.out]; simp only [maxLen]; omega
        · rw [List.length_map, Hn1.out]; omega
        intro a4 Wb ha4
        have r4 := ha4.row
        rw [← List.map_append] at r4
        have b4 := ha4.below (B := W6.heap.size) HvB.out (by omega)
        have g4 := ha4.blk (B := W6.heap.size) HvB.out (by omega)
        have HR4 : Hid (Row Wb 5 1 a4 ((evsB LE ++ markB 9999).map byteV)) := r4
        have HB4 : Hid (Below W6.heap.size W6 Wb) := HBa.out.trans b4
        have hWb : W6.heap.size ≤ Wb.heap.size := HB4.out.size
        have hl4 : ((evsB LE ++ markB 9999).map byteV).length = n1 + 12 := by rw [List.length_map, List.length_append, Hn1.out, Hml.out]
        obtain ⟨ag, ao, an, ac, ha4v, han, hac⟩ := HR4.out.shape (by intro e; rw [e] at hl4; simp at hl4)
        rw [hl4, Nat.mul_one] at han
        subst ha4v
        subst han
        have hag : W6.heap.size ≤ ag := g4 ag rfl
        have Hl4 : Hid (((evsB LE ++ markB 9999).map byteV).length = n1 + 12) := hl4
        clear ha4 r4 b4 g4 HRw HRb S3 HBa HvB hvc hbc' hl4
        go_wp2_with (at_builtin; go_must (refine wpList_append_any _ rfl _ _ _ _ rfl 5 i8 (.int .u8 0) 1 1 Tryz.underlying30 hi hz0 hz1 hz2 rfl Nat.one_pos (.slice (some ⟨ag, ao, none⟩) (n1 + 12) ac) ((evsB LE ++ markB 9999).map byteV) rfl HR4.out (.string odd) odd.size (byteCells odd) rfl (Src.ofString _ Tryz.underlying9 odd) ?_ ?_ ?_))
        · rw [Hl4.out]; simp only [maxLen]; omega
        · rw [Hl4.out]; omega
        intro a5 Wc ha5 _
        have e5 : (evsB LE ++ (markB 9999 ++ odd.data.toList)).map byteV = (evsB LE ++ markB 9999).map byteV ++ byteCells odd := by
          rw [← List.append_assoc, List.map_append]; rfl
        have r5 : Row Wc 5 1 a5 ((evsB LE ++ (markB 9999 ++ odd.data.toList)).map byteV) := by rw [e5, List.map_append]; exact ha5.row
        clear e5
        have b5 := ha5.below (B := W6.heap.size) (fun g hg => by simp only [Value.ownBlock, Option.some.injEq] at hg; omega) (by omega)
        have g5 := ha5.blk (B := W6.heap.size) (fun g hg => by simp only [Value.ownBlock, Option.some.injEq] at hg; omega) (by omega)
        have hol : odd.data.toList.length = odd.size := by rw [Array.length_toList]; rfl
        have HR5 : Hid (Row Wc 5 1 a5 ((evsB LE ++ (markB 9999 ++ odd.data.toList)).map byteV)) := r5
        have HB5 : Hid (Below W6.heap.size W6 Wc) := HB4.out.trans b5
        have hl5 : (evsB LE ++ (markB 9999 ++ odd.data.toList)).length = n1 + 12 + odd.size := by rw [List.length_append, List.length_append, Hn1.out, Hml.out, hol]; omega
        obtain ⟨N, HN⟩ : ∃ N, Hid (n1 + 12 + odd.size = N) := ⟨_, rfl⟩
        have hN : 12 ≤ N ∧ N ≤ 2100000 := by have := HN.out; omega
        rw [HN.out] at hl5
        obtain ⟨cg, co, cn, cc, ha5v, hcn, hcc⟩ := HR5.out.shape (by intro e; have := congrArg List.length e; rw [List.length_map, hl5] at this; simp at this; omega)
        rw [List.length_map, hl5, Nat.mul_one] at hcn
        subst ha5v
        subst hcn
        have hcg : W6.heap.size ≤ cg := g5 cg rfl
        have HMk : Hid (∀ c : Cf, 1 ≤ (feedF c 0 (N + 1) (Sp.new.open 0) (evsB LE ++ (markB 9999 ++ odd.data.toList))).1.n.marks) := fun c => feed_evs c _ LE (N + 1) (Sp.new.open 0) HLf.out (by decide) (by rw [hol]; show (0 : Int) + _ < _; omega) (by have := HN.out; omega)
        have HL5 : Hid ((evsB LE ++ (markB 9999 ++ odd.data.toList)).length = N) := hl5
        generalize evsB LE ++ (markB 9999 ++ odd.data.toList) = L at *
        have hX : ∀ k, k = cg → k < Wc.heap.size := fun k hk => by rw [hk]; exact (HR5.out.blk_lt (k := cg) rfl).1
        have hW6 := B6.out.size
        have hW7 := HB5.out.size
        have HD2 : Hid (Duo w.heap.size (fun k => k = cg) Wc f g ⟨size, slide, late, keys⟩ (Sp.new.open 0, [] :: List.replicate 7 [], none) (Sp.new.open 0, [] :: List.replicate 7 [], none)) := (HD.out.wide (X' := fun k => k = cg) (fun k hk => .inr (by omega))).below HB5.out
        have HB6 : Hid (Below w.heap.size w Wc) := B6.out.trans (HB5.out.mono B6.out.size)
        clear ha5 r5 b5 g5 HR4 HB4 HB5 hl5 hac hag Hl4 hol Hn1 HN hll hWa hWb
        have HFd : Hid (Calls Tryz.prog 20 #[.pointer (some ⟨f, 0, none⟩), .int .i64 0, .slice (some ⟨cg, co, none⟩) N cc] Wc fun e w' => e = .returned (.int .i64 0) ∧ ∃ sp' r', Pcs ⟨size, slide, late, keys⟩ ([] ++ L) sp' r' ∧ Duo w.heap.size (fun k => k = cg) w' f g ⟨size, slide, late, keys⟩ (sp', r' :: List.replicate 7 [], none) (Sp.new.open 0, [] :: List.replicate 7 [], none) ∧ Kept (fun k => w.heap.size ≤ k ∧ ¬ k = cg) Wc w') := HD2.out.feed [] L _ (Pcs.nil _) hX (by omega) HR5.out (by rw [List.nil_append, HL5.out]; omega)
        clear HD2 HD
        go_wp2_with fail
        refine HFd.out.mono ?_
        rintro e Wd ⟨rfl, sp1, r1, hp1, hd1, hk1⟩
        have HP1 : Hid (Pcs ⟨size, slide, late, keys⟩ L sp1 r1) := hp1
        have HD3 : Hid (Duo w.heap.size (fun k => k = cg) Wd f g ⟨size, slide, late, keys⟩ (sp1, r1 :: List.replicate 7 [], none) (Sp.new.open 0, [] :: List.replicate 7 [], none)) := hd1
        have HRd : Hid (Row Wd 5 1 (.slice (some ⟨cg, co, none⟩) N cc) (L.map byteV)) := HR5.out.kept hk1 (fun k hk e => by simp only [Value.ownBlock, Option.some.injEq] at hk; exact e.2 hk.symm)
        have HBd : Hid (Below w.heap.size w Wd) := HB6.out.trans (hk1.toBelow (by omega) (fun k hk e => by omega))
        have hXd : cg < Wd.heap.size := (HRd.out.blk_lt (k := cg) rfl).1
        clear hp1 hd1 hk1 HFd HR5 HB6 hX
        go_wp2_with fail
        go_loopw [19, 20] (fun fr i wr => ∃ (k fm : Nat) (sp2 : Sp) (r2 : List UInt8), k ≤ nc ∧ fm ≤ N ∧ fr = .int .i64 (fm : Int) ∧ i = .int .i64 (k : Int) ∧ Pcs ⟨size, slide, late, keys⟩ (L.take fm) sp2 r2 ∧ Duo w.heap.size (fun k => k = cg) wr g f ⟨size, slide, late, keys⟩ (sp2, r2 :: List.replicate 7 [], none) (sp1, r1 :: List.replicate 7 [], none) ∧ Row wr 5 1 (.slice (some ⟨cg, co, none⟩) N cc) (L.map byteV) ∧ Below w.heap.size w wr) (fun _ i _ => nc - (intOf i).toNat)
        case atStart => exact ⟨0, 0, _, _, Nat.zero_le _, Nat.zero_le _, rfl, rfl, Pcs.nil _, HD3.out.swap, HRd.out, HBd.out⟩
        case round =>
          clear HRd HBd HD3 hXd
          obtain ⟨k2, fm, sp2, r2, hk2, hfm, rfl, rfl, hp2, hd2, hr2, hb2⟩ := hrel
          have HP2 : Hid (Pcs ⟨size, slide, late, keys⟩ (L.take fm) sp2 r2) := hp2
          have HD4 : Hid (Duo w.heap.size (fun k => k = cg) wr g f ⟨size, slide, late, keys⟩ (sp2, r2 :: List.replicate 7 [], none) (sp1, r1 :: List.replicate 7 [], none)) := hd2
          have HRr : Hid (Row wr 5 1 (.slice (some ⟨cg, co, none⟩) N cc) (L.map byteV)) := hr2
          have HBr : Hid (Below w.heap.size w wr) := hb2
          have hcgr : cg < wr.heap.size := (hr2.blk_lt (k := cg) rfl).1
          have hwr := hb2.size
          clear hp2 hd2 hr2 hb2
          by_cases hk3 : k2 < nc
          · have hkc : k2 < cuts.length := by rw [Hnc.out]; exact hk3
            obtain ⟨xb, xo, rfl, hxb, hcell⟩ := HCv.out k2 hkc
            have hcell : wr.cell? ⟨xb, xo + k2, none⟩ = some (.int .i64 cuts[k2]) := by
              rw [HBr.out.cell (p := ⟨xb, xo + k2, none⟩) hxb]; exact hcell
            have hxf := HCf.out cuts[k2] (List.getElem_mem hkc)
            generalize cuts[k2] = X at *
            obtain ⟨Q, hQ⟩ : ∃ Q : Nat, (N : Int) - (fm : Int) = (Q : Int) := ⟨N - fm, by omega⟩
            obtain ⟨R, hR⟩ : ∃ R : Nat, (Q : Int) + 1 = (R : Int) := ⟨Q + 1, by omega⟩
            have hpk := pickZ_lt X (R : Int) (by omega)
            have HPk : Hid (∀ W, Calls Tryz.prog 17 #[.int .i64 X, .int .i64 (R : Int)] W fun e w' => e = .returned (.int .i64 (pickZ X (R : Int))) ∧ w' = W) := fun W => pick_any X (R : Int) W hxf.1 hxf.2 (by omega) (by omega)
            obtain ⟨P, hP⟩ : ∃ P : Nat, pickZ X (R : Int) = (P : Int) := ⟨(pickZ X (R : Int)).toNat, by omega⟩
            rw [hP] at hpk HPk
            obtain ⟨t2, ht2⟩ : ∃ t2 : Nat, (fm : Int) + (P : Int) = (t2 : Int) := ⟨fm + P, by omega⟩
            have hP2 : fm ≤ t2 ∧ t2 ≤ N := by omega
            have w1 : IntKind.i64.wrap ((N : Int) - (fm : Int)) = (Q : Int) := by rw [hQ]; exact wrap_nat (by omega)
            have w2 : IntKind.i64.wrap ((Q : Int) + 1) = (R : Int) := by rw [hR]; exact wrap_nat (by omega)
            have w3 : IntKind.i64.wrap ((fm : Int) + (P : Int)) = (t2 : Int) := by rw [ht2]; exact wrap_nat (by omega)
            have HT2 : Hid (fm + P = t2) := by show _ = _; omega
            clear hP hpk hxf hQ hR ht2
            go_wp2_with fail
            refine (HPk.out wr).mono ?_
            rintro e W7 ⟨rfl, hW7e⟩
            subst hW7e
            have z1 : (0 : Int) ≤ (fm : Int) := by omega
            have z2 : (fm : Int) ≤ (t2 : Int) := by omega
            have z3 : (t2 : Int) ≤ (cc : Int) := by omega
            have z4 : fm ≤ t2 := by omega
            have z5 : t2 ≤ cc := by omega
            have HRp : Hid (Row W7 5 1 (.slice (some ⟨cg, co + fm, none⟩) (t2 - fm) (cc - fm)) (((L.drop fm).take (t2 - fm)).map byteV)) := by
              have := rowPart HRr.out fm t2 z4 (by omega)
              rw [← List.map_drop, ← List.map_take] at this
              exact this
            have HRz : Hid (cc ≤ fm → Row W7 5 1 (.slice (some ⟨cg, co, none⟩) (t2 - fm) 0) (((L.drop fm).take (t2 - fm)).map byteV)) := fun hz => by
              have h0 : t2 - fm = 0 := by omega
              have := rowZero HRr.out (t2 - fm) h0
              rw [h0] at this ⊢
              exact this
            have HFd : Hid (∀ bv, Row W7 5 1 bv (((L.drop fm).take (t2 - fm)).map byteV) → Calls Tryz.prog 20 #[.pointer (some ⟨g, 0, none⟩), .int .i64 0, bv] W7 fun e w' => e = .returned (.int .i64 0) ∧ ∃ sp' r', Pcs ⟨size, slide, late, keys⟩ (L.take t2) sp' r' ∧ Duo w.heap.size (fun k => k = cg) w' g f ⟨size, slide, late, keys⟩ (sp', r' :: List.replicate 7 [], none) (sp1, r1 :: List.replicate 7 [], none) ∧ Kept (fun k => w.heap.size ≤ k ∧ ¬ k = cg) W7 w') := fun bv hbv => by
              have := HD4.out.feed (L.take fm) ((L.drop fm).take (t2 - fm)) bv HP2.out (fun k hk => by omega) (by omega) hbv (by rw [takePart L fm t2 z4, List.length_take, HL5.out]; omega)
              rw [takePart L fm t2 z4] at this
              exact this
            clear HPk hcell w1 w2 HD4 HP2
            by_cases hz : cc - fm = 0
            all_goals
              go_wp2_with fail
              refine (HFd.out _ (by first | exact HRp.out | exact HRz.out (by omega))).mono ?_
              clear hz
              rintro e W8 ⟨rfl, sp3, r3, hp3, hd3, hk3⟩
              have HP3 : Hid (Pcs ⟨size, slide, late, keys⟩ (L.take t2) sp3 r3) := hp3
              have HD5 : Hid (Duo w.heap.size (fun k => k = cg) W8 g f ⟨size, slide, late, keys⟩ (sp3, r3 :: List.replicate 7 [], none) (sp1, r1 :: List.replicate 7 [], none)) := hd3
              have HR8 : Hid (Row W8 5 1 (.slice (some ⟨cg, co, none⟩) N cc) (L.map byteV)) := HRr.out.kept hk3 (fun k hk e => by simp only [Value.ownBlock, Option.some.injEq] at hk; exact e.2 hk.symm)
              have HB8 : Hid (Below w.heap.size w W8) := HBr.out.trans (hk3.toBelow hwr (fun k hk e => by omega))
              clear hp3 hd3 hk3 HFd HRp HRz HRr HBr z1 z2 z3 z4 z5
              go_wp2_with fail
              go_roundw
              case rel =>
                exact ⟨k2 + 1, t2, sp3, r3, by omega, hP2.2, rfl, by go_num, HP3.out, HD5.out, HR8.out, HB8.out⟩
              case measure => simp [intOf]; omega
          · have z1 : (0 : Int) ≤ (fm : Int) := by omega
            have z2 : (fm : Int) ≤ (N : Int) := by omega
            have z3 : (N : Int) ≤ (cc : Int) := by omega
            have z4 : fm ≤ N := hfm
            have z5 : N ≤ cc := hcc
            have HRp : Hid (Row wr 5 1 (.slice (some ⟨cg, co + fm, none⟩) (N - fm) (cc - fm)) ((L.drop fm).map byteV)) := by
              have := rowPart HRr.out fm N z4 (by omega)
              rw [← List.map_drop, ← List.map_take, List.take_of_length_le (Nat.le_of_eq (by rw [List.length_drop, HL5.out]))] at this
              exact this
            have HRz : Hid (cc ≤ fm → Row wr 5 1 (.slice (some ⟨cg, co, none⟩) (N - fm) 0) ((L.drop fm).map byteV)) := fun hz => by
              have h0 : N - fm = 0 := by omega
              have h1 : L.drop fm = [] := List.drop_of_length_le (by rw [HL5.out]; omega)
              rw [h1]
              exact rowZero HRr.out (N - fm) h0
            have HFd : Hid (∀ bv, Row wr 5 1 bv ((L.drop fm).map byteV) → Calls Tryz.prog 20 #[.pointer (some ⟨g, 0, none⟩), .int .i64 0, bv] wr fun e w' => e = .returned (.int .i64 0) ∧ ∃ sp' r', Pcs ⟨size, slide, late, keys⟩ L sp' r' ∧ Duo w.heap.size (fun k => k = cg) w' g f ⟨size, slide, late, keys⟩ (sp', r' :: List.replicate 7 [], none) (sp1, r1 :: List.replicate 7 [], none) ∧ Kept (fun k => w.heap.size ≤ k ∧ ¬ k = cg) wr w') := fun bv hbv => by
              have := HD4.out.feed (L.take fm) (L.drop fm) bv HP2.out (fun k hk => by omega) (by omega) hbv (by rw [List.take_append_drop, HL5.out]; omega)
              rw [List.take_append_drop] at this
              exact this
            clear HD4 HP2
            by_cases hz : cc - fm = 0
            all_goals
              go_wp2_with fail
              refine (HFd.out _ (by first | exact HRp.out | exact HRz.out (by omega))).mono ?_
              clear hz
              rintro e W8 ⟨rfl, sp3, r3, hp3, hd3, hk3⟩
              obtain ⟨rfl, rfl⟩ : sp3 = sp1 ∧ r3 = r1 := by
                have h1 := hp3.is.symm.trans HP1.out.is
                cases h1
                exact ⟨rfl, rfl⟩
              have hw8 : w.heap.size ≤ W8.heap.size := by have := hk3.size; omega
              have hc8 : cg < W8.heap.size := by have := hk3.size; omega
              have HB8 : Hid (Below w.heap.size w W8) := HBr.out.trans (hk3.toBelow hwr (fun k hk e => by omega))
              have hE : sp3.E.length ≤ 200000 := by have := hp3.heft; rw [HL5.out] at this; omega
              have hRst := hp3.rst HC.out.b5
              have HMk1 : Hid (1 ≤ sp3.n.marks) := by
                have h1 := HMk.out ⟨size, slide, late, keys⟩
                have h2 := hp3.is
                rw [HL5.out] at h2
                rw [h2] at h1
                exact h1
              have HTa : Hid (Calls Tryz.prog 25 #[.pointer (some ⟨f, 0, none⟩)] W8 fun e w' => ∃ ov ys, e = .returned ov ∧ WinsAt w' ov ys 0 ∧ DoneOk size slide none sp3.lt sp3.li sp3.E (ys.map WinX.w) ∧ (∀ k, OutB ov ys k → W8.heap.size ≤ k ∧ k < w'.heap.size) ∧ Duo w.heap.size (fun k => k = cg ∨ OutB ov ys k) w' f g ⟨size, slide, late, keys⟩ (sp3, r3 :: List.replicate 7 [], tookT sp3 none) (sp3, r3 :: List.replicate 7 [], none) ∧ Kept (fun k => w.heap.size ≤ k ∧ ¬ k = cg) W8 w') :=
                hd3.swap.take HRis HSo (fun k hk => by omega) hw8 hRst.li hE hok.a6 hRst.lt
              clear hp3 hd3 hk3 HFd HRp HRz HRr HBr z1 z2 z3 z4 z5 HP1
              go_wp2_with fail
              refine HTa.out.mono ?_
              rintro e W9 ⟨ov1, ys1, rfl, hw1, hdn1, ho1, hd1, hk1⟩
              have hw9 : w.heap.size ≤ W9.heap.size := by have := hk1.size; omega
              have hX1 : ∀ k, (k = cg ∨ OutB ov1 ys1 k) → k < W9.heap.size := fun k hk => by
                rcases hk with hk | hk
                · have := hk1.size; omega
                · exact (ho1 k hk).2
              have HTb : Hid (Calls Tryz.prog 25 #[.pointer (some ⟨g, 0, none⟩)] W9 fun e w' => ∃ ov ys, e = .returned ov ∧ WinsAt w' ov ys 0 ∧ DoneOk size slide none sp3.lt sp3.li sp3.E (ys.map WinX.w) ∧ (∀ k, OutB ov ys k → W9.heap.size ≤ k ∧ k < w'.heap.size) ∧ Duo w.heap.size (fun k => (k = cg ∨ OutB ov1 ys1 k) ∨ OutB ov ys k) w' g f ⟨size, slide, late, keys⟩ (sp3, r3 :: List.replicate 7 [], tookT sp3 none) (sp3, r3 :: List.replicate 7 [], tookT sp3 none) ∧ Kept (fun k => w.heap.size ≤ k ∧ ¬ (k = cg ∨ OutB ov1 ys1 k)) W9 w') :=
                hd1.swap.take HRis HSo hX1 hw9 hRst.li hE hok.a6 hRst.lt
              have HW1 : Hid (WinsAt W9 ov1 ys1 0) := hw1
              have HN1 : Hid (DoneOk size slide none sp3.lt sp3.li sp3.E (ys1.map WinX.w)) := hdn1
              have HX1 : Hid (∀ k, (k = cg ∨ OutB ov1 ys1 k) → k < W9.heap.size) := hX1
              have HB9 : Hid (Below w.heap.size w W9) := HB8.out.trans (hk1.toBelow hw8 (fun k hk e => by omega))
              clear hw1 hdn1 ho1 hd1 hk1 hX1 HTa HB8
              go_wp2_with fail
              refine HTb.out.mono ?_
              rintro e Wa0 ⟨ov2, ys2, rfl, hw2, hdn2, ho2, hd2, hk2⟩
              have HS : Hid (ys1.map WinX.w = ys2.map WinX.w) := HN1.out.uniq hdn2
              have HW2 : Hid (WinsAt Wa0 ov1 ys1 0) := HW1.out.kept hk2 (fun k hk e => e.2 (.inr (.inl hk))) (fun x hx k hk e => e.2 (.inr (.inr ⟨x, hx, hk⟩)))
              have HV2 : Hid (WinsAt Wa0 ov2 ys2 0) := hw2
              obtain ⟨X2, HX2⟩ : ∃ X2 : Nat → Prop, Hid ((fun k => (k = cg ∨ OutB ov1 ys1 k) ∨ OutB ov2 ys2 k) = X2) := ⟨_, rfl⟩
              have hO1 : ∀ k, OutB ov1 ys1 k → X2 k := fun k hk => by rw [← HX2.out]; exact .inl (.inr hk)
              have hO2 : ∀ k, OutB ov2 ys2 k → X2 k := fun k hk => by rw [← HX2.out]; exact .inr hk
              have hX2 : ∀ k, X2 k → k < Wa0.heap.size := fun k hk => by
                rw [← HX2.out] at hk
                rcases hk with hk | hk
                · have := HX1.out k hk; have := hk2.size; omega
                · exact (ho2 k hk).2
              rw [HX2.out] at hd2
              have hwa : w.heap.size ≤ Wa0.heap.size := by have := hk2.size; omega
              have HBa : Hid (Below w.heap.size w Wa0) := HB9.out.trans (hk2.toBelow hw9 (fun k hk e => by omega))
              have HLn : Hid (Calls Tryz.prog 29 #[.pointer (some ⟨f, 0, none⟩)] Wa0 fun e w' => e = .returned (.tuple #[.int .i64 sp3.lt, .bool sp3.li]) ∧ Duo w.heap.size X2 w' f g ⟨size, slide, late, keys⟩ (sp3, r3 :: List.replicate 7 [], tookT sp3 none) (sp3, r3 :: List.replicate 7 [], tookT sp3 none) ∧ Kept (fun k => w.heap.size ≤ k ∧ ¬ X2 k) Wa0 w') := hd2.swap.line hX2 hwa
              have HX : Hid (∀ k, X2 k → k < Wa0.heap.size) := hX2
              clear hw2 hdn2 ho2 hd2 hk2 HTb HW1 HX1 HB9 HN1 HX2 hX2
              have HK : Hid (Kept (fun k => w.heap.size ≤ k ∧ ¬ X2 k) Wa0 Wa0) := Kept.refl _ _
              go_wp2_with fail
              refine HLn.out.mono ?_
              rintro e Wa1 ⟨rfl, hd3, hk3⟩
              have HK1 : Hid (Kept (fun k => w.heap.size ≤ k ∧ ¬ X2 k) Wa0 Wa1) := hk3
              have hs1 := hk3.size
              have HLg : Hid (Calls Tryz.prog 29 #[.pointer (some ⟨g, 0, none⟩)] Wa1 fun e w' => e = .returned (.tuple #[.int .i64 sp3.lt, .bool sp3.li]) ∧ Duo w.heap.size X2 w' g f ⟨size, slide, late, keys⟩ (sp3, r3 :: List.replicate 7 [], tookT sp3 none) (sp3, r3 :: List.replicate 7 [], tookT sp3 none) ∧ Kept (fun k => w.heap.size ≤ k ∧ ¬ X2 k) Wa1 w') := hd3.swap.line (fun k hk => by have := HX.out k hk; omega) (by omega)
              clear hd3 hk3 HLn HK
              go_wp2_with fail
              refine HLg.out.mono ?_
              rintro e Wa2 ⟨rfl, hd3, hk3⟩
              have HK2 : Hid (Kept (fun k => w.heap.size ≤ k ∧ ¬ X2 k) Wa0 Wa2) := HK1.out.trans hk3
              have hs2 := hk3.size
              have HCf : Hid (Calls Tryz.prog 27 #[.pointer (some ⟨f, 0, none⟩)] Wa2 fun e w' => e = .returned (countsV sp3.n) ∧ Duo w.heap.size X2 w' f g ⟨size, slide, late, keys⟩ (sp3, r3 :: List.replicate 7 [], tookT sp3 none) (sp3, r3 :: List.replicate 7 [], tookT sp3 none) ∧ Kept (fun k => w.heap.size ≤ k ∧ ¬ X2 k) Wa2 w') := hd3.swap.counts (fun k hk => by have := HX.out k hk; omega) (by omega)
              clear hd3 hk3 HLg HK1
              go_wp2_with fail
              refine HCf.out.mono ?_
              rintro e Wa3 ⟨rfl, hd3, hk3⟩
              have HK3 : Hid (Kept (fun k => w.heap.size ≤ k ∧ ¬ X2 k) Wa0 Wa3) := HK2.out.trans hk3
              have hs3 := hk3.size
              have HD6 : Hid (Duo w.heap.size X2 Wa3 f g ⟨size, slide, late, keys⟩ (sp3, r3 :: List.replicate 7 [], tookT sp3 none) (sp3, r3 :: List.replicate 7 [], tookT sp3 none)) := hd3
              clear hd3 hk3 HCf HK2
              unfold countsV
              go_upto_region 32 with fail
              obtain ⟨mb, Hmb⟩ : ∃ m, Hid (Wa3.heap.size = m) := ⟨_, rfl⟩
              have hi4 := heap_alloc_new Wa3 (.cells #[.int .i64 sp3.n.taken, .int .i64 sp3.n.late, .int .i64 sp3.n.range, .int .i64 sp3.n.full, .int .i64 sp3.n.marks, .int .i64 sp3.n.broken] 58)
              have hb4 : Below Wa3.heap.size Wa3 (Wa3.alloc (.cells #[.int .i64 sp3.n.taken, .int .i64 sp3.n.late, .int .i64 sp3.n.range, .int .i64 sp3.n.full, .int .i64 sp3.n.marks, .int .i64 sp3.n.broken] 58)) := (Below.refl _ Wa3).alloc (Nat.le_refl _) _
              have hd4 := (HD6.out.wide (X' := fun k => X2 k ∨ k = Wa3.heap.size) (fun k hk => hk.imp id (fun h => by omega))).below hb4
              rw [Hmb.out] at hi4 hd4 ⊢
              have HK4 : Hid (Kept (fun k => w.heap.size ≤ k ∧ ¬ X2 k) Wa0 (Wa3.alloc (.cells #[.int .i64 sp3.n.taken, .int .i64 sp3.n.late, .int .i64 sp3.n.range, .int .i64 sp3.n.full, .int .i64 sp3.n.marks, .int .i64 sp3.n.broken] 58))) := HK3.out.alloc _
              have hs4 := hb4.size
              clear hb4 HD6 HK3
              generalize Wa3.alloc (.cells #[.int .i64 sp3.n.taken, .int .i64 sp3.n.late, .int .i64 sp3.n.range, .int .i64 sp3.n.full, .int .i64 sp3.n.marks, .int .i64 sp3.n.broken] 58) = Wa4 at *
              have HCg : Hid (Calls Tryz.prog 27 #[.pointer (some ⟨g, 0, none⟩)] Wa4 fun e w' => e = .returned (countsV sp3.n) ∧ Duo w.heap.size (fun k => X2 k ∨ k = mb) w' g f ⟨size, slide, late, keys⟩ (sp3, r3 :: List.replicate 7 [], tookT sp3 none) (sp3, r3 :: List.replicate 7 [], tookT sp3 none) ∧ Kept (fun k => w.heap.size ≤ k ∧ ¬ (X2 k ∨ k = mb)) Wa4 w') := hd4.swap.counts (fun k hk => by
                rcases hk with hk | hk
                · have := HX.out k hk; omega
                · rw [hk]; exact blkLt hi4) (by omega)
              have HI4 : Hid (Wa4.heap[mb]? = some (.cells #[.int .i64 sp3.n.taken, .int .i64 sp3.n.late, .int .i64 sp3.n.range, .int .i64 sp3.n.full, .int .i64 sp3.n.marks, .int .i64 sp3.n.broken] 58 (0, 0))) := hi4
              clear hi4 hd4
              unfold countsV at HCg
              go_wp2_with fail
              refine HCg.out.mono ?_
              rintro e Wa5 ⟨rfl, -, hk5⟩
              have hi5 : Wa5.heap[mb]? = some (.cells #[.int .i64 sp3.n.taken, .int .i64 sp3.n.late, .int .i64 sp3.n.range, .int .i64 sp3.n.full, .int .i64 sp3.n.marks, .int .i64 sp3.n.broken] 58 (0, 0)) := by
                rw [hk5.block mb (blkLt HI4.out) (fun e => e.2 (.inr rfl))]; exact HI4.out
              have HI5 : Hid (Wa5.heap[mb]? = some (.cells #[.int .i64 sp3.n.taken, .int .i64 sp3.n.late, .int .i64 sp3.n.range, .int .i64 sp3.n.full, .int .i64 sp3.n.marks, .int .i64 sp3.n.broken] 58 (0, 0))) := hi5
              have HK5 : Hid (Kept (fun k => w.heap.size ≤ k ∧ ¬ X2 k) Wa0 Wa5) := HK4.out.trans (hk5.mono (fun k _ h => ⟨h.1, fun hx => h.2 (.inl hx)⟩))
              clear hi5 hk5 HCg HK4 HI4
              go_upto_region 33 with fail
              obtain ⟨nb, Hnb⟩ : ∃ m, Hid (Wa5.heap.size = m) := ⟨_, rfl⟩
              have hj6 := heap_alloc_new Wa5 (.cells #[.int .i64 sp3.n.taken, .int .i64 sp3.n.late, .int .i64 sp3.n.range, .int .i64 sp3.n.full, .int .i64 sp3.n.marks, .int .i64 sp3.n.broken] 58)
              have hb6 : Below Wa5.heap.size Wa5 (Wa5.alloc (.cells #[.int .i64 sp3.n.taken, .int .i64 sp3.n.late, .int .i64 sp3.n.range, .int .i64 sp3.n.full, .int .i64 sp3.n.marks, .int .i64 sp3.n.broken] 58)) := (Below.refl _ Wa5).alloc (Nat.le_refl _) _
              have hi6 := blkBelow HI5.out hb6
              have hk6 : Kept (fun k => w.heap.size ≤ k ∧ ¬ X2 k) Wa0 (Wa5.alloc (.cells #[.int .i64 sp3.n.taken, .int .i64 sp3.n.late, .int .i64 sp3.n.range, .int .i64 sp3.n.full, .int .i64 sp3.n.marks, .int .i64 sp3.n.broken] 58)) := HK5.out.alloc _
              rw [Hnb.out] at hj6 ⊢
              clear hb6 HK5 HI5
              generalize Wa5.alloc (.cells #[.int .i64 sp3.n.taken, .int .i64 sp3.n.late, .int .i64 sp3.n.range, .int .i64 sp3.n.full, .int .i64 sp3.n.marks, .int .i64 sp3.n.broken] 58) = Wa6 at *
              have hw6 := HW2.out.kept hk6 (fun k hk e => e.2 (hO1 k (.inl hk))) (fun x hx k hk e => e.2 (hO1 k (.inr ⟨x, hx, hk⟩)))
              have hv6 := HV2.out.kept hk6 (fun k hk e => e.2 (hO2 k (.inl hk))) (fun x hx k hk e => e.2 (hO2 k (.inr ⟨x, hx, hk⟩)))
              have HSA : Hid (Calls Tryz.prog 30 #[ov1, ov2] Wa6 fun e w' => e = .returned (.bool true) ∧ Below Wa6.heap.size Wa6 w') := sameAll_any ov1 ov2 ys1 ys2 Wa6 hw6 hv6 HS.out
              have HB6 : Hid (Below w.heap.size w Wa6) := HBa.out.trans (hk6.toBelow hwa (fun k hk e => by omega))
              have HI6 : Hid (Wa6.heap[mb]? = some (.cells #[.int .i64 sp3.n.taken, .int .i64 sp3.n.late, .int .i64 sp3.n.range, .int .i64 sp3.n.full, .int .i64 sp3.n.marks, .int .i64 sp3.n.broken] 58 (0, 0))) := hi6
              have HJ6 : Hid (Wa6.heap[nb]? = some (.cells #[.int .i64 sp3.n.taken, .int .i64 sp3.n.late, .int .i64 sp3.n.range, .int .i64 sp3.n.full, .int .i64 sp3.n.marks, .int .i64 sp3.n.broken] 58 (0, 0))) := hj6
              clear hw6 hv6 hk6 HW2 HV2 hO1 hO2 hi6 hj6 HX HS HBa
              go_wp2_with fail
              refine HSA.out.mono ?_
              rintro e Wa7 ⟨rfl, hb7⟩
              have hi7 := blkBelow HI6.out hb7
              have hj7 := blkBelow HJ6.out hb7
              have HB7 : Hid (Below w.heap.size w Wa7) := HB6.out.trans (hb7.mono HB6.out.size)
              have hm1 : 1 ≤ sp3.n.marks := HMk1.out
              have m0 : Wa7.cell? ⟨mb, 0, none⟩ = some (.int .i64 sp3.n.taken) := blkCell hi7 rfl
              have m1 : Wa7.cell? ⟨mb, 1, none⟩ = some (.int .i64 sp3.n.late) := blkCell hi7 rfl
              have m2 : Wa7.cell? ⟨mb, 2, none⟩ = some (.int .i64 sp3.n.range) := blkCell hi7 rfl
              have m3 : Wa7.cell? ⟨mb, 3, none⟩ = some (.int .i64 sp3.n.full) := blkCell hi7 rfl
              have m4 : Wa7.cell? ⟨mb, 4, none⟩ = some (.int .i64 sp3.n.marks) := blkCell hi7 rfl
              have m5 : Wa7.cell? ⟨mb, 5, none⟩ = some (.int .i64 sp3.n.broken) := blkCell hi7 rfl
              have n0 : Wa7.cell? ⟨nb, 0, none⟩ = some (.int .i64 sp3.n.taken) := blkCell hj7 rfl
              have n1' : Wa7.cell? ⟨nb, 1, none⟩ = some (.int .i64 sp3.n.late) := blkCell hj7 rfl
              have n2 : Wa7.cell? ⟨nb, 2, none⟩ = some (.int .i64 sp3.n.range) := blkCell hj7 rfl
              have n3 : Wa7.cell? ⟨nb, 3, none⟩ = some (.int .i64 sp3.n.full) := blkCell hj7 rfl
              have n4 : Wa7.cell? ⟨nb, 4, none⟩ = some (.int .i64 sp3.n.marks) := blkCell hj7 rfl
              have n5 : Wa7.cell? ⟨nb, 5, none⟩ = some (.int .i64 sp3.n.broken) := blkCell hj7 rfl
              clear hi7 hj7 hb7 HSA HB6 HI6 HJ6 HMk1
              go_wp2_with fail
              go_ret
              exact ⟨rfl, HB7.out⟩
end Go.Proofs.YtcfngdnmpogaoaaGreat
