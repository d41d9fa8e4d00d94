import Derived.Test.YtcfngdnmpogaoaaGreatWnA03
namespace Go.Proofs.YtcfngdnmpogaoaaGreat
open Go.RowKit

theorem raw_facts (x : RawE) (h : x.Fits) : -500 ≤ x.ev.t ∧ x.ev.t < 500 ∧ x.ev.fits ∧ x.ev.key ∈ keys5 := by
  have h1 := pickZ_lt x.t 1000 (by omega)
  have h2 := pickZ_lt x.k 5 (by omega)
  have ht : x.ev.t = pickZ x.t 1000 - 500 := rfl
  refine ⟨by omega, by omega, ⟨h.v.1, by have := h.v.2; show x.v ≤ _; omega, h.tag⟩, ?_⟩
  show (keys5[(pickZ x.k 5).toNat]?).getD ⟨#[97]⟩ ∈ keys5
  have h3 : (pickZ x.k 5).toNat < keys5.length := by show _ < 5; omega
  rw [List.getElem?_eq_getElem h3]
  exact List.getElem_mem h3

theorem wrap64_2p1 : wrap64 (2 + 1) = 3 := by unfold wrap64; omega
theorem wrap64_3p1 : wrap64 (3 + 1) = 4 := by unfold wrap64; omega
set_option maxRecDepth 20000 in
set_option maxHeartbeats 6400000 in
theorem windows_any (HRis : RisingOk) (HSrt : SortOk) (HKn : ∀ w, Calls Tryz.prog 14 #[] w fun e w' => e = .returned (.bool true) ∧ Below w.heap.size w w')
    (a b c d : Int) (ha : i64B a) (hb : i64B b) (hc : i64B c) (hd : i64B d) (ev : Value) (evs : List RawE) (w : World) (hev : EvsAt w ev evs)
    (hef : ∀ e ∈ evs, e.Fits) :
    Calls Tryz.prog 7 #[.agg #[.int .i64 a, .int .i64 b, .int .i64 c, .int .i64 d], ev] w fun e w' => e = .returned (.bool true) ∧ Below w.heap.size w w' := by
  obtain ⟨ea, ecap, rfl, hev⟩ := hev
  have HEv : Hid (∀ i (h : i < evs.length), ∃ b off, ea = some ⟨b, off, none⟩ ∧ b < w.heap.size ∧ ∀ j, j < 4 → w.cell? ⟨b, off + (i * 4 + j), none⟩ = (evs[i]).cells[j]?) := hev
  have HEf : Hid (∀ e ∈ evs, e.Fits) := hef
  clear hev hef
  have hCfg := fun W => config_any a b c d W ha hb hc hd
  clear ha hb hc hd
  obtain ⟨ne, Hne⟩ : ∃ n, Hid (evs.length = n) := ⟨_, rfl⟩
  rw [Hne.out]
  go_enter Tryz.func7, Tryz.ntmps7
  go_upto_region 1 with fail
  have hi1 := heap_alloc_new w (.cells #[.int .i64 a, .int .i64 b, .int .i64 c, .int .i64 d] 39)
  have B1 : Hid (Below w.heap.size w (w.alloc (.cells #[.int .i64 a, .int .i64 b, .int .i64 c, .int .i64 d] 39))) := (Below.refl _ w).alloc (Nat.le_refl _) _
  generalize w.alloc (.cells #[.int .i64 a, .int .i64 b, .int .i64 c, .int .i64 d] 39) = W1 at *
  go_wp2_with fail
  refine (HKn W1).mono ?_
  rintro e W2 ⟨rfl, hb2⟩
  have hi2 := blkBelow hi1 hb2
  have B2 : Hid (Below w.heap.size w W2) := B1.out.trans (hb2.mono B1.out.size)
  clear hi1 hb2 B1 HKn
  have s0 : W2.cell? ⟨w.heap.size, 0, none⟩ = some (.int .i64 a) := blkCell hi2 rfl
  have s1 : W2.cell? ⟨w.heap.size, 1, none⟩ = some (.int .i64 b) := blkCell hi2 rfl
  have s2 : W2.cell? ⟨w.heap.size, 2, none⟩ = some (.int .i64 c) := blkCell hi2 rfl
  have s3 : W2.cell? ⟨w.heap.size, 3, none⟩ = some (.int .i64 d) := blkCell hi2 rfl
  go_wp2_with fail
  refine (hCfg W2).mono ?_
  rintro e W3 ⟨size, slide, late, keys, rfl, hcfg, hb3⟩
  have hcfg : CfgOk size slide late 5 := ⟨hcfg.b1, hcfg.b2, hcfg.b3, hcfg.b4, hcfg.b5, hcfg.b6, by omega, by omega⟩
  have hcf := hcfg.conf
  have hok := hcfg.ok
  have HC : Hid (CfgOk size slide late 5) := hcfg
  have B3 : Hid (Below w.heap.size w W3) := B2.out.trans (hb3.mono B2.out.size)
  clear s0 s1 s2 s3 hi2 hb3 B2 hCfg hcfg
  have HFl : Hid (∀ W, Calls Tryz.prog 19 #[.agg #[.int .i64 size, .int .i64 slide, .int .i64 late, .int .i64 5]] W fun e w' => ∃ g, W.heap.size ≤ g ∧ e = .returned (.pointer (some ⟨g, 0, none⟩)) ∧ FlowOn w' g ⟨size, slide, late, 5⟩ (Sp.new.open 0) (List.replicate 8 []) (fun k => W.heap.size ≤ k) none ∧ Below W.heap.size W w') := fun W => flow_on size slide late 5 W hcf
  unfold confV
  go_upto_region 3 with fail
  have hi4 := heap_alloc_new W3 (.cells #[.int .i64 size, .int .i64 slide, .int .i64 late, .int .i64 keys] 42)
  have B4 : Hid (Below w.heap.size w (W3.alloc (.cells #[.int .i64 size, .int .i64 slide, .int .i64 late, .int .i64 keys] 42))) := B3.out.alloc B3.out.size _
  have hbc : w.heap.size ≤ W3.heap.size := B3.out.size
  obtain ⟨C, HCeq⟩ : ∃ C, Hid (W3.heap.size = C) := ⟨_, rfl⟩
  rw [HCeq.out] at hi4 hbc ⊢
  generalize W3.alloc (.cells #[.int .i64 size, .int .i64 slide, .int .i64 late, .int .i64 keys] 42) = W4 at *
  have c3 : W4.cell? ⟨C, 3, none⟩ = some (.int .i64 keys) := blkCell hi4 rfl
  have hfz : W4.frozen? ⟨C, 3, none⟩ = false := by simp [World.frozen?, hi4]
  have hi5 : (W4.setCell ⟨C, 3, none⟩ (.int .i64 5)).heap[C]? = some (.cells #[.int .i64 size, .int .i64 slide, .int .i64 late, .int .i64 5] 42 (0, 0)) := by
    simp [World.setCell, Array.getElem?_modify, hi4]
  have B5 : Hid (Below w.heap.size w (W4.setCell ⟨C, 3, none⟩ (.int .i64 5))) := B4.out.setCell (by show w.heap.size ≤ C; exact hbc) _
  clear hi4 B3
  go_upto_region 4 with fail
  clear c3 hfz B4
  generalize W4.setCell ⟨C, 3, none⟩ (.int .i64 5) = W5 at *
  have c0 : W5.cell? ⟨C, 0, none⟩ = some (.int .i64 size) := blkCell hi5 rfl
  have c1 : W5.cell? ⟨C, 1, none⟩ = some (.int .i64 slide) := blkCell hi5 rfl
  have c2 : W5.cell? ⟨C, 2, none⟩ = some (.int .i64 late) := blkCell hi5 rfl
  have c3 : W5.cell? ⟨C, 3, none⟩ = some (.int .i64 5) := blkCell hi5 rfl
  have HI5 : Hid (W5.heap[C]? = some (.cells #[.int .i64 size, .int .i64 slide, .int .i64 late, .int .i64 5] 42 (0, 0))) := hi5
  clear hi5
  go_wp2_with fail
  refine (HFl.out W5).mono ?_
  rintro e W6 ⟨f, hf6, rfl, hF6, hb6⟩
  have HI6 : Hid (W6.heap[C]? = some (.cells #[.int .i64 size, .int .i64 slide, .int .i64 late, .int .i64 5] 42 (0, 0))) := blkBelow HI5.out hb6
  have hC5 := blkLt HI5.out
  have hC6 := blkLt HI6.out
  have B6 : Hid (Below w.heap.size w W6) := B5.out.trans (hb6.mono B5.out.size)
  have hS6 : Solo w.heap.size (fun _ => False) W6 f ⟨size, slide, late, 5⟩ (Sp.new.open 0) none := Solo.start hF6 B5.out.size
  have HS6 : Hid (Solo w.heap.size (fun k => k = C) W6 f ⟨size, slide, late, 5⟩ (Sp.new.open 0) none) := by
    obtain ⟨F, h1, h2⟩ := (⟨_, hF6.lt, fun k hk => ⟨by have := hk.1; have := B5.out.size; omega, hk.2, fun h3 => by have := hk.1; omega⟩⟩ : Solo w.heap.size (fun k => k = C) W6 f ⟨size, slide, late, 5⟩ (Sp.new.open 0) none)
    exact ⟨F, h1, h2⟩
  have c0 : W6.cell? ⟨C, 0, none⟩ = some (.int .i64 size) := blkCell HI6.out rfl
  clear hS6 hF6 hb6 HFl hf6 c1 c2 c3 HI5 B5
  have hz1 := HC.out.b3
  have hz2 := HC.out.b4
  have hz3 := HC.out.b1
  have hz4 := HC.out.b2
  have hl1 := HC.out.b5
  have hl2 := HC.out.b6
  obtain ⟨m, Hm⟩ : ∃ m, Hid (-600 - 2 * size = m) := ⟨_, rfl⟩
  have hmv := Hm.out
  have w1 : IntKind.i64.wrap (2 * size) = 2 * size := by rw [IntKind.wrap_i64]; omega
  have w2 : IntKind.i64.wrap (-600 - 2 * size) = m := by rw [Hm.out, IntKind.wrap_i64]; omega
  have HMc : Hid (clampT m = m) := by show _ = _; unfold clampT; split <;> omega
  clear hmv
  go_wp2_with fail
  refine (mark_any m W6).mono ?_
  rintro e W7 ⟨bv, rfl, hrb, hgb, hbb⟩
  have hd7 := (HS6.out.wide (X' := fun k => k = C ∨ bv.ownBlock = some k) (fun k hk => hk.imp id (hgb k))).below hbb
  have HI7 : Hid (W7.heap[C]? = some (.cells #[.int .i64 size, .int .i64 slide, .int .i64 late, .int .i64 5] 42 (0, 0))) := blkBelow HI6.out hbb
  have B7 : Hid (Below w.heap.size w W7) := B6.out.trans (hbb.mono B6.out.size)
  have hw7 := B7.out.size
  have hC7 := blkLt HI7.out
  have hm1 := Hm.out
  have HMa : Hid (Calls Tryz.prog 20 #[.pointer (some ⟨f, 0, none⟩), .int .i64 0, bv] W7 fun e w' => e = .returned (.int .i64 0) ∧ Solo w.heap.size (fun k => k = C ∨ bv.ownBlock = some k) w' f ⟨size, slide, late, 5⟩ (spV ⟨size, slide, late, 5⟩ m) none ∧ Kept (fun k => w.heap.size ≤ k ∧ ¬ (k = C ∨ bv.ownBlock = some k)) W7 w') := by
    have h8 := hd7.mark 0 m bv ⟨true, false, 0, false⟩ (fun k hk => by
      rcases hk with hk | hk
      · omega
      · exact (hrb.blk_lt hk).1) hw7 (by omega) (by omega) hrb rfl rfl rfl (by omega) (by show 0 < _; omega)
    rw [mark_V _ m HMc.out] at h8
    exact h8
  clear hd7 hrb hgb hbb HS6 HI6 B6 c0 hm1
  go_wp2_with fail
  refine HMa.out.mono ?_
  rintro e W8 ⟨rfl, hd8, hk8⟩
  have HI8 : Hid (W8.heap[C]? = some (.cells #[.int .i64 size, .int .i64 slide, .int .i64 late, .int .i64 5] 42 (0, 0))) := by
    show _ = _
    rw [hk8.block C hC7 (fun e => e.2 (.inl rfl))]; exact HI7.out
  have B8 : Hid (Below w.heap.size w W8) := B7.out.trans (hk8.toBelow hw7 (fun k hk e => by omega))
  have hw8 := B8.out.size
  have hC8 := blkLt HI8.out
  have HO : Hid (Calls Tryz.prog 22 #[.pointer (some ⟨f, 0, none⟩), .int .i64 1] W8 fun e w' => e = .returned (.int .i64 0) ∧ Solo w.heap.size (fun k => k = C) w' f ⟨size, slide, late, 5⟩ ((spV ⟨size, slide, late, 5⟩ m).open 1) none ∧ Kept (fun k => w.heap.size ≤ k ∧ ¬ k = C) W8 w') :=
    (hd8.wide (X' := fun k => k = C) (fun k hk => .inl (.inl hk))).open 1 ⟨false, false, 0, false⟩ (fun k hk => by omega) hw8 rfl rfl
  clear hd8 hk8 HMa HI7 B7
  go_wp2_with fail
  refine HO.out.mono ?_
  rintro e W9 ⟨rfl, hd9, hk9⟩
  have HI9 : Hid (W9.heap[C]? = some (.cells #[.int .i64 size, .int .i64 slide, .int .i64 late, .int .i64 5] 42 (0, 0))) := by
    show _ = _
    rw [hk9.block C hC8 (fun e => e.2 rfl)]; exact HI8.out
  have B9 : Hid (Below w.heap.size w W9) := B8.out.trans (hk9.toBelow hw8 (fun k hk e => by omega))
  have HS9 : Hid (Solo w.heap.size (fun k => k = C) W9 f ⟨size, slide, late, 5⟩ ((spV ⟨size, slide, late, 5⟩ m).open 1) none) := hd9
  have c0 : W9.cell? ⟨C, 0, none⟩ = some (.int .i64 size) := blkCell HI9.out rfl
  clear hd9 hk9 HO HI8 B8
  go_wp2_with fail
  refine (mark_any m W9).mono ?_
  rintro e Wa ⟨cv, rfl, hrb, hgb, hbb⟩
  have hda := (HS9.out.wide (X' := fun k => k = C ∨ cv.ownBlock = some k) (fun k hk => hk.imp id (hgb k))).below hbb
  have HIa : Hid (Wa.heap[C]? = some (.cells #[.int .i64 size, .int .i64 slide, .int .i64 late, .int .i64 5] 42 (0, 0))) := blkBelow HI9.out hbb
  have Ba : Hid (Below w.heap.size w Wa) := B9.out.trans (hbb.mono B9.out.size)
  have hwa := Ba.out.size
  have hCa := blkLt HIa.out
  have hm1 := Hm.out
  have HMb : Hid (Calls Tryz.prog 20 #[.pointer (some ⟨f, 0, none⟩), .int .i64 1, cv] Wa fun e w' => e = .returned (.int .i64 0) ∧ Solo w.heap.size (fun k => k = C ∨ cv.ownBlock = some k) w' f ⟨size, slide, late, 5⟩ (spW m m (m - late) [] 0 2) none ∧ Kept (fun k => w.heap.size ≤ k ∧ ¬ (k = C ∨ cv.ownBlock = some k)) Wa w') := by
    have h8 := hda.mark 1 m cv ⟨true, false, 0, false⟩ (fun k hk => by
      rcases hk with hk | hk
      · omega
      · exact (hrb.blk_lt hk).1) hwa (by omega) (by omega) hrb rfl rfl rfl (by omega) (by show 0 < _; omega)
    rw [mark_V1 _ m HMc.out] at h8
    exact h8
  clear hda hrb hgb hbb HS9 HI9 B9 c0 hm1 w1 w2
  go_wp2_with fail
  refine HMb.out.mono ?_
  rintro e Wb ⟨rfl, hdb, hkb⟩
  have HIb : Hid (Wb.heap[C]? = some (.cells #[.int .i64 size, .int .i64 slide, .int .i64 late, .int .i64 5] 42 (0, 0))) := by
    show _ = _
    rw [hkb.block C hCa (fun e => e.2 (.inl rfl))]; exact HIa.out
  have Bb : Hid (Below w.heap.size w Wb) := Ba.out.trans (hkb.toBelow hwa (fun k hk e => by omega))
  have HSb : Hid (Solo w.heap.size (fun k => k = C ∨ (Value.slice none 0 0).ownBlock = some k) Wb f ⟨size, slide, late, 5⟩ (spW m m (m - late) [] 0 2) none) := hdb.wide (fun k hk => by
    rcases hk with hk | hk
    · exact .inl (.inl hk)
    · cases hk)
  clear hdb hkb HMb HIa Ba
  go_wp2_with fail
  go_loopw [8, 9] (fun v i wr => ∃ (k : Nat) (A : Int), k ≤ 80 ∧ k ≤ ne ∧ i = .int .i64 (k : Int) ∧ Row wr 28 5 v (((evs.take k).map RawE.ev).flatMap evCells) ∧ (∀ g, v.ownBlock = some g → w.heap.size ≤ g) ∧ Solo w.heap.size (fun k => k = C ∨ v.ownBlock = some k) wr f ⟨size, slide, late, 5⟩ (spW A m (m - late) ((evs.take k).map RawE.ev) (k : Int) 2) none ∧ m ≤ A ∧ A ≤ 500 ∧ wr.heap[C]? = some (.cells #[.int .i64 size, .int .i64 slide, .int .i64 late, .int .i64 5] 42 (0, 0)) ∧ Below w.heap.size w wr) (fun _ i _ => 80 - (intOf i).toNat)
  case atStart => exact ⟨0, m, Nat.zero_le _, Nat.zero_le _, rfl, Row.nil _ _ _, fun g hg => (by cases hg), HSb.out, Int.le_refl _, by have := Hm.out; omega, HIb.out, Bb.out⟩
  case round =>
    clear HSb HIb Bb
    obtain ⟨k, A, hk80, hkn, rfl, hrow, hvb, hso, hmA, hA5, hcfg, hbw⟩ := hrel
    obtain ⟨va, vc, hva, -⟩ := itemRow hrow
    have hlE : ((evs.take k).map RawE.ev).length = k := by rw [List.length_map, List.length_take, Hne.out]; omega
    rw [hlE] at hva
    subst hva
    have HRow : Hid (Row wr 28 5 (.slice va k vc) (((evs.take k).map RawE.ev).flatMap evCells)) := hrow
    have HVb : Hid (∀ g, (Value.slice va k vc).ownBlock = some g → w.heap.size ≤ g) := hvb
    have HSo : Hid (Solo w.heap.size (fun j => j = C ∨ (Value.slice va k vc).ownBlock = some j) wr f ⟨size, slide, late, 5⟩ (spW A m (m - late) ((evs.take k).map RawE.ev) (k : Int) 2) none) := hso
    have HI : Hid (wr.heap[C]? = some (.cells #[.int .i64 size, .int .i64 slide, .int .i64 late, .int .i64 5] 42 (0, 0))) := hcfg
    have HBw : Hid (Below w.heap.size w wr) := hbw
    have hwr := hbw.size
    have hCr := blkLt hcfg
    have hVC : (Value.slice va k vc).ownBlock ≠ some C := hrow.ne_block hcfg (by decide)
    have HVC : Hid ((Value.slice va k vc).ownBlock ≠ some C) := hVC
    have HlE : Hid (((evs.take k).map RawE.ev).length = k) := hlE
    have HEa : Hid (∀ e ∈ (evs.take k).map RawE.ev, -500 ≤ e.t ∧ e.t < 500 ∧ e.fits ∧ e.key ∈ keys5) := fun e he => by
      obtain ⟨x, hx, rfl⟩ := List.mem_map.1 he
      exact raw_facts x (HEf.out x (List.mem_of_mem_take hx))
    clear hrow hvb hso hcfg hbw hVC hlE
    by_cases hin : k < ne ∧ k < 80
    · obtain ⟨hin1, hin2⟩ := hin
      have hk : k < evs.length := by rw [Hne.out]; exact hin1
      have hfit := HEf.out evs[k] (List.getElem_mem hk)
      have hEB := hfit.evB
      have hrf := raw_facts _ hfit
      have HTk : Hid ((evs.take (k + 1)).map RawE.ev = (evs.take k).map RawE.ev ++ [evs[k].ev]) := by
        show _ = _
        rw [List.take_succ_eq_append_getElem hk, List.map_append]; rfl
      obtain ⟨eb, eo, rfl, heb, hcell⟩ := HEv.out k hk
      have hcell : ∀ j, j < 4 → wr.cell? ⟨eb, eo + (k * 4 + j), none⟩ = (evs[k]).cells[j]? := fun j hj => by
        rw [HBw.out.cell (p := ⟨eb, eo + (k * 4 + j), none⟩) heb]; exact hcell j hj
      have e0 := hcell 0 (by omega)
      have e1 := hcell 1 (by omega)
      have e2 := hcell 2 (by omega)
      have e3 := hcell 3 (by omega)
      have HIt : Hid (∀ W, Calls Tryz.prog 23 #[.agg #[.int .i64 evs[k].k, .int .i64 evs[k].t, .int .i64 evs[k].v, .int .u32 (evs[k].tag : Int)]] W fun e w' => e = .returned (evItemV evs[k].ev) ∧ Below W.heap.size W w') := fun W => item_any evs[k].k evs[k].t evs[k].v evs[k].tag W hfit.k hfit.t
      have HEB : Hid (EvB evs[k].ev) := hEB
      have HRf : Hid (-500 ≤ evs[k].ev.t ∧ evs[k].ev.t < 500 ∧ evs[k].ev.fits ∧ evs[k].ev.key ∈ keys5) := hrf
      clear hcell hfit hEB hrf
      generalize evs[k].ev = EV at *
      generalize (evs.take k).map RawE.ev = E at *
      simp only [RawE.cells, List.getElem?_toArray, List.getElem?_cons_zero, List.getElem?_cons_succ, Nat.add_zero, ← Nat.add_assoc] at e0 e1 e2 e3
      go_wp2_with fail
      refine (HIt.out wr).mono ?_
      rintro e Wa ⟨rfl, hba⟩
      unfold evItemV
      go_upto_region 16 with fail
      obtain ⟨ib, Hib⟩ : ∃ m, Hid (Wa.heap.size = m) := ⟨_, rfl⟩
      have hib : wr.heap.size ≤ ib := by have := hba.size; have := Hib.out; omega
      have hi1 := heap_alloc_new Wa (.cells #[.int .i64 1, .string EV.key, .int .i64 EV.t, .int .i64 EV.v, .int .u32 (EV.tag : Int)] 28)
      have hb1 : Below wr.heap.size wr (Wa.alloc (.cells #[.int .i64 1, .string EV.key, .int .i64 EV.t, .int .i64 EV.v, .int .u32 (EV.tag : Int)] 28)) := hba.alloc hba.size _
      rw [Hib.out] at hi1 ⊢
      have HBb : Hid (Below wr.heap.size wr (Wa.alloc (.cells #[.int .i64 1, .string EV.key, .int .i64 EV.t, .int .i64 EV.v, .int .u32 (EV.tag : Int)] 28))) := hb1
      have HI1 : Hid ((Wa.alloc (.cells #[.int .i64 1, .string EV.key, .int .i64 EV.t, .int .i64 EV.v, .int .u32 (EV.tag : Int)] 28)).heap[ib]? = some (.cells #[.int .i64 1, .string EV.key, .int .i64 EV.t, .int .i64 EV.v, .int .u32 (EV.tag : Int)] 28 (0, 0))) := hi1
      clear hba hb1 HIt e0 e1 e2 e3
      generalize Wa.alloc (.cells #[.int .i64 1, .string EV.key, .int .i64 EV.t, .int .i64 EV.v, .int .u32 (EV.tag : Int)] 28) = Wb at *
      have hwb := HBb.out.size
      have hibb := blkLt HI1.out
      obtain ⟨i0, i1, i2, i3, i4⟩ := itemAt hi1
      have HRb : Hid (Row Wb 28 5 (.slice va k vc) (E.flatMap evCells)) := HRow.out.below HBb.out (fun j hj => (HRow.out.blk_lt hj).1)
      have hlen : (E.flatMap evCells).length = 5 * k := by rw [evFlat_len, HlE.out]
      have HLen : Hid ((E.flatMap evCells).length = 5 * k) := hlen
      clear hi1 hlen
      obtain ⟨i, hi, hz0, hz1', hz2'⟩ := info_parts info28
      go_wp2_with (at_builtin; go_must (refine wpList_append _ rfl _ _ _ _ rfl 28 i (.agg #[.int .i64 0, .string ⟨#[]⟩, .int .i64 0, .int .i64 0, .int .u32 0]) 5 48 Tryz.underlying49 hi hz0 hz1' hz2' rfl (by decide) (.slice va k vc) (E.flatMap evCells) rfl (HRb.out.alloc _) (.slice (some ⟨Wb.heap.size, 0, none⟩) 1 1) 1 (evCells EV) rfl (item_src Wb EV) Nat.one_pos ?h63 ?hby ?next))
      case h63 => rw [HLen.out]; simp only [maxLen]; omega
      case hby => rw [HLen.out]; omega
      intro v4 Wd ha4
      have hbc1 : Below Wb.heap.size Wb (Wb.alloc (.cells #[.int .i64 1, .string EV.key, .int .i64 EV.t, .int .i64 EV.v, .int .u32 (EV.tag : Int)] 28)) := (Below.refl _ Wb).alloc (Nat.le_refl _) _
      have hsc := hbc1.size
      have hkp : Kept (fun j => (Value.slice va k vc).ownBlock = some j) (Wb.alloc (.cells #[.int .i64 1, .string EV.key, .int .i64 EV.t, .int .i64 EV.v, .int .u32 (EV.tag : Int)] 28)) Wd := Kept.ofGrown ha4.grown
      have hV4 : ∀ j, v4.ownBlock = some j → (Value.slice va k vc).ownBlock = some j ∨ (Wb.alloc (.cells #[.int .i64 1, .string EV.key, .int .i64 EV.t, .int .i64 EV.v, .int .u32 (EV.tag : Int)] 28)).heap.size ≤ j := fun j hj => by
        rcases ha4.step with ⟨h5, -⟩ | ⟨h5, -⟩
        · exact .inl (by rw [← h5]; exact hj)
        · rw [h5] at hj
          exact .inr (by cases hj; omega)
      have hs4 := ((((HSo.out.below HBb.out).below hbc1).wide (X' := fun j => (j = C ∨ (Value.slice va k vc).ownBlock = some j) ∨ v4.ownBlock = some j) (fun j hj => by
        rcases hj with hj | hj
        · exact .inl hj
        · rcases hV4 j hj with h5 | h5
          · exact .inl (.inr h5)
          · exact .inr h5)).kept hkp (fun j _ hj => .inr (.inl (.inr hj)))).wide (X' := fun j => j = C ∨ v4.ownBlock = some j) (fun j hj => .inl (hj.imp .inl id))
      have hr4 : Row Wd 28 5 v4 ((E ++ [EV]).flatMap evCells) := by
        have h5 := ha4.row
        rw [List.flatMap_append]
        simpa using h5
      have HR4 : Hid (Row Wd 28 5 v4 ((E ++ [EV]).flatMap evCells)) := hr4
      have HV4 : Hid (∀ j, v4.ownBlock = some j → w.heap.size ≤ j) := fun j hj => by
        rcases hV4 j hj with h5 | h5
        · exact HVb.out j h5
        · omega
      have hCb : Wb.heap[C]? = some (.cells #[.int .i64 size, .int .i64 slide, .int .i64 late, .int .i64 5] 42 (0, 0)) := blkBelow HI.out HBb.out
      have HId : Hid (Wd.heap[C]? = some (.cells #[.int .i64 size, .int .i64 slide, .int .i64 late, .int .i64 5] 42 (0, 0))) := by
        show _ = _
        rw [hkp.block C (by omega) (fun h5 => HVC.out h5)]
        exact blkBelow hCb hbc1
      have hib4 : Wd.heap[ib]? = some (.cells #[.int .i64 1, .string EV.key, .int .i64 EV.t, .int .i64 EV.v, .int .u32 (EV.tag : Int)] 28 (0, 0)) := by
        rw [hkp.block ib (by omega) (fun h5 => by have := (HRow.out.blk_lt h5).1; omega)]
        exact blkBelow HI1.out hbc1
      have HBd : Hid (Below w.heap.size w Wd) := (HBw.out.trans (HBb.out.mono hwr)).trans ((hbc1.mono (by omega)).trans (hkp.toBelow (by omega) (fun j hj h5 => by have := HVb.out j h5; omega)))
      have hwd := HBd.out.size
      have hcd := blkLt HId.out
      have HEq : Hid (((spW A m (m - late) E (k : Int) 2).event0 ⟨size, slide, late, 5⟩ 0 EV).line ⟨size, slide, late, 5⟩ = spW (if A < EV.t then EV.t else A) m (m - late) (E ++ [EV]) (wrap64 ((k : Int) + 1)) 2) := by
        have h5 := HRf.out
        have h6 := Hm.out
        refine event_W ⟨size, slide, late, 5⟩ A m E (k : Int) 2 EV hmA ?_ ?_ ?_
        · unfold outB; simp only [Bool.or_eq_false_iff, decide_eq_false_iff_not]; omega
        · show m - late ≤ EV.t; omega
        · exact many_five ⟨size, slide, late, 5⟩ (spW A m (m - late) E (k : Int) 2) keys5 (Nat.le_refl _) (fun e he => (HEa.out e he).2.2.2) EV.key h5.2.2.2 (Int.le_refl _)
      have HFd : Hid (Calls Tryz.prog 24 #[.pointer (some ⟨f, 0, none⟩), .int .i64 0, .agg #[.int .i64 1, .string EV.key, .int .i64 EV.t, .int .i64 EV.v, .int .u32 (EV.tag : Int)]] Wd fun e w' => e = .returned (.bool true) ∧ Solo w.heap.size (fun j => j = C ∨ v4.ownBlock = some j) w' f ⟨size, slide, late, 5⟩ (spW (if A < EV.t then EV.t else A) m (m - late) (E ++ [EV]) (wrap64 ((k : Int) + 1)) 2) none ∧ Kept (fun j => w.heap.size ≤ j ∧ ¬ (j = C ∨ v4.ownBlock = some j)) Wd w') := by
        have h5 := hs4.fed 0 EV ⟨true, false, A, true⟩ (fun j hj => by
          rcases hj with hj | hj
          · omega
          · exact (hr4.blk_lt hj).1) hwd HEB.out rfl rfl rfl (by omega) (by show E.length < _; rw [HlE.out]; omega)
        rw [HEq.out] at h5
        exact h5
      obtain ⟨j0, j1, j2, j3, j4⟩ := itemAt hib4
      obtain ⟨a4, c4, hv4, -⟩ := itemRow hr4
      have hl4 : (E ++ [EV]).length = k + 1 := by rw [List.length_append, HlE.out]; rfl
      rw [hl4] at hv4
      subst hv4
      clear hbc1 hsc hkp hV4 hs4 hr4 hCb hib4 HEq ha4 HRb HRow HSo HBb HI HBw HVb i0 i1 i2 i3 i4 hl4
      go_wp2_with fail
      refine HFd.out.mono ?_
      rintro e We ⟨rfl, hse, hke⟩
      have hwk : wrap64 ((k : Int) + 1) = (k : Int) + 1 := by unfold wrap64; omega
      rw [hwk] at hse
      have HSe : Hid (Solo w.heap.size (fun j => j = C ∨ (Value.slice a4 (k + 1) c4).ownBlock = some j) We f ⟨size, slide, late, 5⟩ (spW (if A < EV.t then EV.t else A) m (m - late) (E ++ [EV]) ((k : Int) + 1) 2) none) := hse
      have HRe : Hid (Row We 28 5 (.slice a4 (k + 1) c4) ((E ++ [EV]).flatMap evCells)) := HR4.out.kept hke (fun j hj h5 => h5.2 (.inr hj))
      have HIe : Hid (We.heap[C]? = some (.cells #[.int .i64 size, .int .i64 slide, .int .i64 late, .int .i64 5] 42 (0, 0))) := by
        show _ = _
        rw [hke.block C hcd (fun h5 => h5.2 (.inl rfl))]; exact HId.out
      have HBe : Hid (Below w.heap.size w We) := HBd.out.trans (hke.toBelow hwd (fun j hj h5 => by omega))
      have HAA : Hid (m ≤ (if A < EV.t then EV.t else A) ∧ (if A < EV.t then EV.t else A) ≤ 500) := by
        have h5 := HRf.out
        show _ ∧ _
        split <;> omega
      generalize (if A < EV.t then EV.t else A) = A2 at *
      clear hse hke HFd HR4 HId HBd j0 j1 j2 j3 j4 hwk
      go_wp2_with fail
      go_roundw
      case rel => exact ⟨k + 1, A2, by omega, by omega, by go_num, by rw [HTk.out]; exact HRe.out, HV4.out, by rw [HTk.out]; exact HSe.out, HAA.out.1, HAA.out.2, HIe.out, HBe.out⟩
      case measure => simp [intOf]; omega
    · have hcase : (k < ne ∧ ¬ k < 80) ∨ ¬ k < ne := by omega
      clear hin
      have HTi : Hid (∀ e ∈ (evs.take k).map RawE.ev, -500 ≤ e.t ∧ e.t < 500) := fun e he => ⟨(HEa.out e he).1, (HEa.out e he).2.1⟩
      have HFi : Hid (Fits ((evs.take k).map RawE.ev)) := fun e he => (HEa.out e he).2.2.1
      generalize (evs.take k).map RawE.ev = E at *
      have hmm := Hm.out
      have HTa : Hid (Calls Tryz.prog 25 #[.pointer (some ⟨f, 0, none⟩)] wr fun e w' => ∃ ov ys, e = .returned ov ∧ WinsAt w' ov ys 0 ∧ DoneOk size slide none (m - late) true E (ys.map WinX.w) ∧ (∀ k, OutB ov ys k → wr.heap.size ≤ k ∧ k < w'.heap.size) ∧ Solo w.heap.size (fun j => (j = C ∨ (Value.slice va k vc).ownBlock = some j) ∨ OutB ov ys j) w' f ⟨size, slide, late, 5⟩ (spW A m (m - late) E (k : Int) 2) (some (m - late)) ∧ Kept (fun j => w.heap.size ≤ j ∧ ¬ (j = C ∨ (Value.slice va k vc).ownBlock = some j)) wr w') :=
        HSo.out.take HRis HSrt (fun j hj => by
          rcases hj with hj | hj
          · omega
          · exact (HRow.out.blk_lt hj).1) hwr (fun _ => rfl) (by show E.length ≤ _; rw [HlE.out]; omega) hok.a6 (by show m - late ≤ _; omega)
      clear HSo hmm
      rcases hcase with ⟨hin1, hin2⟩ | hin1
      all_goals
        go_wp2_with fail
        refine HTa.out.mono ?_
        rintro e Wt ⟨ov1, ys1, rfl, hw1, hdn1, -, hd1, hk1⟩
        have hy1 : ys1 = [] := by
          have h5 := hdn1.early (fun e he => by have := HTi.out e he; have := Hm.out; omega)
          exact List.map_eq_nil_iff.1 h5
        obtain rfl : ov1 = .slice none 0 0 := hw1.void hy1
        have HS : Hid (Solo w.heap.size (fun j => j = C ∨ (Value.slice va k vc).ownBlock = some j) Wt f ⟨size, slide, late, 5⟩ (spW A m (m - late) E (k : Int) 2) (some (m - late))) := hd1.wide (fun j hj => .inl (.inl hj))
        have HRS : Hid (Row Wt 28 5 (.slice va k vc) (E.flatMap evCells)) := HRow.out.kept hk1 (fun j hj h5 => h5.2 (.inr hj))
        have HIS : Hid (Wt.heap[C]? = some (.cells #[.int .i64 size, .int .i64 slide, .int .i64 late, .int .i64 5] 42 (0, 0))) := by
          show _ = _
          rw [hk1.block C hCr (fun h5 => h5.2 (.inl rfl))]; exact HI.out
        have HBS : Hid (Below w.heap.size w Wt) := HBw.out.trans (hk1.toBelow hwr (fun j hj h5 => by omega))
        clear hw1 hdn1 hd1 hk1 hy1 HTa HRow HI HBw
        go_wp2_with fail
        refine (mark_any 10000 Wt).mono ?_
        rintro e Wu ⟨bv1, rfl, hrb, hgb, hbb⟩
        have hdm := (HS.out.wide (X' := fun j => (j = C ∨ (Value.slice va k vc).ownBlock = some j) ∨ bv1.ownBlock = some j) (fun j hj => hj.imp id (hgb j))).below hbb
        have HRm : Hid (Row Wu 28 5 (.slice va k vc) (E.flatMap evCells)) := HRS.out.below hbb (fun j hj => (HRS.out.blk_lt hj).1)
        have HIm : Hid (Wu.heap[C]? = some (.cells #[.int .i64 size, .int .i64 slide, .int .i64 late, .int .i64 5] 42 (0, 0))) := blkBelow HIS.out hbb
        have HBm : Hid (Below w.heap.size w Wu) := HBS.out.trans (hbb.mono HBS.out.size)
        have hwm := HBm.out.size
        have hCm := blkLt HIm.out
        have HMm : Hid (Calls Tryz.prog 20 #[.pointer (some ⟨f, 0, none⟩), .int .i64 0, bv1] Wu fun e w' => e = .returned (.int .i64 0) ∧ Solo w.heap.size (fun j => (j = C ∨ (Value.slice va k vc).ownBlock = some j) ∨ bv1.ownBlock = some j) w' f ⟨size, slide, late, 5⟩ (spW 10000 m (m - late) E (k : Int) 3) (some (m - late)) ∧ Kept (fun j => w.heap.size ≤ j ∧ ¬ ((j = C ∨ (Value.slice va k vc).ownBlock = some j) ∨ bv1.ownBlock = some j)) Wu w') := by
          have h8 := hdm.mark 0 10000 bv1 ⟨true, false, A, true⟩ (fun j hj => by
            rcases hj with (hj | hj) | hj
            · omega
            · exact (HRm.out.blk_lt hj).1
            · exact (hrb.blk_lt hj).1) hwm (by omega) (by omega) hrb rfl rfl rfl (by omega) (by show E.length < _; rw [HlE.out]; omega)
          rw [mark_W0 _ A m E (k : Int) 2 10000 hmA (by omega) (by unfold clampT; omega), wrap64_2p1] at h8
          exact h8
        clear hdm hrb hgb hbb HS HRS HIS HBS
        go_wp2_with fail
        refine HMm.out.mono ?_
        rintro e Wv ⟨rfl, hdo, hko⟩
        have HSb : Hid (Solo w.heap.size (fun j => j = C ∨ (Value.slice va k vc).ownBlock = some j) Wv f ⟨size, slide, late, 5⟩ (spW 10000 m (m - late) E (k : Int) 3) (some (m - late))) := hdo.wide (fun j hj => .inl (.inl hj))
        have HRSb : Hid (Row Wv 28 5 (.slice va k vc) (E.flatMap evCells)) := HRm.out.kept hko (fun j hj h5 => h5.2 (.inl (.inr hj)))
        have HISb : Hid (Wv.heap[C]? = some (.cells #[.int .i64 size, .int .i64 slide, .int .i64 late, .int .i64 5] 42 (0, 0))) := by
          show _ = _
          rw [hko.block C hCm (fun h5 => h5.2 (.inl (.inl rfl)))]; exact HIm.out
        have HBSb : Hid (Below w.heap.size w Wv) := HBm.out.trans (hko.toBelow hwm (fun j hj h5 => by omega))
        clear hdo hko HMm HRm HIm HBm hwm hCm
        go_wp2_with fail
        refine (mark_any 10000 Wv).mono ?_
        rintro e Wx ⟨bv2, rfl, hrb, hgb, hbb⟩
        have hdm := (HSb.out.wide (X' := fun j => (j = C ∨ (Value.slice va k vc).ownBlock = some j) ∨ bv2.ownBlock = some j) (fun j hj => hj.imp id (hgb j))).below hbb
        have HRm : Hid (Row Wx 28 5 (.slice va k vc) (E.flatMap evCells)) := HRSb.out.below hbb (fun j hj => (HRSb.out.blk_lt hj).1)
        have HIm : Hid (Wx.heap[C]? = some (.cells #[.int .i64 size, .int .i64 slide, .int .i64 late, .int .i64 5] 42 (0, 0))) := blkBelow HISb.out hbb
        have HBm : Hid (Below w.heap.size w Wx) := HBSb.out.trans (hbb.mono HBSb.out.size)
        have hwm := HBm.out.size
        have hCm := blkLt HIm.out
        have HMm : Hid (Calls Tryz.prog 20 #[.pointer (some ⟨f, 0, none⟩), .int .i64 1, bv2] Wx fun e w' => e = .returned (.int .i64 0) ∧ Solo w.heap.size (fun j => (j = C ∨ (Value.slice va k vc).ownBlock = some j) ∨ bv2.ownBlock = some j) w' f ⟨size, slide, late, 5⟩ (spW 10000 10000 (10000 - late) E (k : Int) 4) (some (m - late)) ∧ Kept (fun j => w.heap.size ≤ j ∧ ¬ ((j = C ∨ (Value.slice va k vc).ownBlock = some j) ∨ bv2.ownBlock = some j)) Wx w') := by
          have h8 := hdm.mark 1 10000 bv2 ⟨true, false, m, true⟩ (fun j hj => by
            rcases hj with (hj | hj) | hj
            · omega
            · exact (HRm.out.blk_lt hj).1
            · exact (hrb.blk_lt hj).1) hwm (by omega) (by omega) hrb rfl rfl rfl (by omega) (by show E.length < _; rw [HlE.out]; omega)
          rw [mark_W1 _ m E (k : Int) 3 10000 (by have := Hm.out; omega) (by unfold clampT; omega), wrap64_3p1] at h8
          exact h8
        clear hdm hrb hgb hbb HSb HRSb HISb HBSb
        go_wp2_with fail
        refine HMm.out.mono ?_
        rintro e Wy ⟨rfl, hdo, hko⟩
        have HSbb : Hid (Solo w.heap.size (fun j => j = C ∨ (Value.slice va k vc).ownBlock = some j) Wy f ⟨size, slide, late, 5⟩ (spW 10000 10000 (10000 - late) E (k : Int) 4) (some (m - late))) := hdo.wide (fun j hj => .inl (.inl hj))
        have HRSbb : Hid (Row Wy 28 5 (.slice va k vc) (E.flatMap evCells)) := HRm.out.kept hko (fun j hj h5 => h5.2 (.inl (.inr hj)))
        have HISbb : Hid (Wy.heap[C]? = some (.cells #[.int .i64 size, .int .i64 slide, .int .i64 late, .int .i64 5] 42 (0, 0))) := by
          show _ = _
          rw [hko.block C hCm (fun h5 => h5.2 (.inl (.inl rfl)))]; exact HIm.out
        have HBSbb : Hid (Below w.heap.size w Wy) := HBm.out.trans (hko.toBelow hwm (fun j hj h5 => by omega))
        clear hdo hko HMm HRm HIm HBm hwm hCm
        have hwy := HBSbb.out.size
        have hCy := blkLt HISbb.out
        have HTb : Hid (Calls Tryz.prog 25 #[.pointer (some ⟨f, 0, none⟩)] Wy fun e w' => ∃ ov ys, e = .returned ov ∧ WinsAt w' ov ys 0 ∧ DoneOk size slide (some (m - late)) (10000 - late) true E (ys.map WinX.w) ∧ (∀ k, OutB ov ys k → Wy.heap.size ≤ k ∧ k < w'.heap.size) ∧ Solo w.heap.size (fun j => (j = C ∨ (Value.slice va k vc).ownBlock = some j) ∨ OutB ov ys j) w' f ⟨size, slide, late, 5⟩ (spW 10000 10000 (10000 - late) E (k : Int) 4) (some (10000 - late)) ∧ Kept (fun j => w.heap.size ≤ j ∧ ¬ (j = C ∨ (Value.slice va k vc).ownBlock = some j)) Wy w') :=
          HSbb.out.take HRis HSrt (fun j hj => by
            rcases hj with hj | hj
            · omega
            · exact (HRSbb.out.blk_lt hj).1) hwy (fun _ => rfl) (by show E.length ≤ _; rw [HlE.out]; omega) hok.a6 (by show 10000 - late ≤ _; omega)
        clear HSbb
        go_wp2_with fail
        refine HTb.out.mono ?_
        rintro e Wz ⟨ov2, ys2, rfl, hw2, hdn2, ho2, hd2, hk2⟩
        have HAl : Hid (AllW size slide E (ys2.map WinX.w)) := hdn2.all (fun e he => by have := HTi.out e he; have := Hm.out; omega)
        have HRz : Hid (Row Wz 28 5 (.slice va k vc) (E.flatMap evCells)) := HRSbb.out.kept hk2 (fun j hj h5 => h5.2 (.inr hj))
        have HIz : Hid (Wz.heap[C]? = some (.cells #[.int .i64 size, .int .i64 slide, .int .i64 late, .int .i64 5] 42 (0, 0))) := by
          show _ = _
          rw [hk2.block C hCy (fun h5 => h5.2 (.inl rfl))]; exact HISbb.out
        have HBz : Hid (Below w.heap.size w Wz) := HBSbb.out.trans (hk2.toBelow hwy (fun j hj h5 => by omega))
        have HSz : Hid (Solo w.heap.size (fun _ => False) Wz f ⟨size, slide, late, 5⟩ (spW 10000 10000 (10000 - late) E (k : Int) 4) (some (10000 - late))) := hd2.wide (fun j hj => hj.elim)
        have HTo : Hid (Calls Tryz.prog 26 #[ov2, .slice va k vc, .agg #[.int .i64 size, .int .i64 slide, .int .i64 late, .int .i64 5]] Wz fun e w' => e = .returned (.bool true) ∧ Below Wz.heap.size Wz w') :=
          ktold_any ov2 (.slice va k vc) ys2 E size slide late 5 Wz hw2 HRz.out HAl.out HFi.out HTi.out hz3 hz4 (by omega) (by omega) (by rw [HlE.out]; omega)
        have c0 : Wz.cell? ⟨C, 0, none⟩ = some (.int .i64 size) := blkCell HIz.out rfl
        have c1 : Wz.cell? ⟨C, 1, none⟩ = some (.int .i64 slide) := blkCell HIz.out rfl
        have c2 : Wz.cell? ⟨C, 2, none⟩ = some (.int .i64 late) := blkCell HIz.out rfl
        have c3 : Wz.cell? ⟨C, 3, none⟩ = some (.int .i64 5) := blkCell HIz.out rfl
        clear hw2 hdn2 ho2 hd2 hk2 HTb HRSbb HISbb HBSbb
        go_wp2_with fail
        refine HTo.out.mono ?_
        rintro e Y1 ⟨rfl, hb1⟩
        have hs1 := HSz.out.below hb1
        have HB1 : Hid (Below w.heap.size w Y1) := HBz.out.trans (hb1.mono HBz.out.size)
        have hw1 := HB1.out.size
        have HCt : Hid (Calls Tryz.prog 27 #[.pointer (some ⟨f, 0, none⟩)] Y1 fun e w' => e = .returned (.agg #[.int .i64 (k : Int), .int .i64 0, .int .i64 0, .int .i64 0, .int .i64 4, .int .i64 0]) ∧ Solo w.heap.size (fun _ => False) w' f ⟨size, slide, late, 5⟩ (spW 10000 10000 (10000 - late) E (k : Int) 4) (some (10000 - late)) ∧ Kept (fun j => w.heap.size ≤ j ∧ ¬ False) Y1 w') := hs1.counts (fun j hj => hj.elim) hw1
        clear hs1 hb1 HTo HSz HRz HIz HBz c0 c1 c2 c3
        go_wp2_with fail
        refine HCt.out.mono ?_
        rintro e Y2 ⟨rfl, -, hk2⟩
        have HB2 : Hid (Below w.heap.size w Y2) := HB1.out.trans (hk2.toBelow hw1 (fun j hj h5 => by omega))
        clear hk2 HCt HB1
        go_upto_region 26 with fail
        obtain ⟨nb, Hnb⟩ : ∃ m, Hid (Y2.heap.size = m) := ⟨_, rfl⟩
        have hj7 := heap_alloc_new Y2 (.cells #[.int .i64 (k : Int), .int .i64 0, .int .i64 0, .int .i64 0, .int .i64 4, .int .i64 0] 58)
        have HB7 : Hid (Below w.heap.size w (Y2.alloc (.cells #[.int .i64 (k : Int), .int .i64 0, .int .i64 0, .int .i64 0, .int .i64 4, .int .i64 0] 58))) := HB2.out.alloc HB2.out.size _
        rw [Hnb.out] at hj7 ⊢
        clear HB2
        generalize Y2.alloc (.cells #[.int .i64 (k : Int), .int .i64 0, .int .i64 0, .int .i64 0, .int .i64 4, .int .i64 0] 58) = Y3 at *
        have n0 : Y3.cell? ⟨nb, 0, none⟩ = some (.int .i64 (k : Int)) := blkCell hj7 rfl
        have n1' : Y3.cell? ⟨nb, 1, none⟩ = some (.int .i64 0) := blkCell hj7 rfl
        have n2 : Y3.cell? ⟨nb, 2, none⟩ = some (.int .i64 0) := blkCell hj7 rfl
        have n3 : Y3.cell? ⟨nb, 3, none⟩ = some (.int .i64 0) := blkCell hj7 rfl
        have n4 : Y3.cell? ⟨nb, 4, none⟩ = some (.int .i64 4) := blkCell hj7 rfl
        have n5 : Y3.cell? ⟨nb, 5, none⟩ = some (.int .i64 0) := blkCell hj7 rfl
        clear hj7
        go_wp2_with fail
        go_ret
        exact ⟨rfl, HB7.out⟩
end Go.Proofs.YtcfngdnmpogaoaaGreat
