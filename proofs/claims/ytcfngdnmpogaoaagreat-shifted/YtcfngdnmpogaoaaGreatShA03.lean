import Derived.Test.YtcfngdnmpogaoaaGreatShA02
namespace Go.Proofs.YtcfngdnmpogaoaaGreat
open Go.RowKit

set_option maxRecDepth 20000 in
set_option maxHeartbeats 6400000 in
theorem shifted_any (HRis : RisingOk) (HSo : SortOk) (HKn : ∀ w, Calls Tryz.prog 14 #[] w fun e w' => e = .returned (.bool true) ∧ Below w.heap.size w w')
    (a b c d : Int) (ha : i64B a) (hb : i64B b) (hc : i64B c) (hd : i64B d) (ev : Value) (evs : List RawE) (by_ : Int) (hby : i64B by_) (w : World) (hev : EvsAt w ev evs)
    (hef : ∀ e ∈ evs, e.Fits) :
    Calls Tryz.prog 10 #[.agg #[.int .i64 a, .int .i64 b, .int .i64 c, .int .i64 d], ev, .int .i64 by_] w fun e w' => e = .returned (.bool true) ∧ Below w.heap.size w w' := by
  obtain ⟨ea, ecap, rfl, hev⟩ := hev
  have HEv : Hid (∀ i (h : i < evs.length), ∃ b off, ea = some ⟨b, off, none⟩ ∧ b < w.heap.size ∧ ∀ j, j < 4 → w.cell? ⟨b, off + (i * 4 + j), none⟩ = (evs[i]).cells[j]?) := hev
  have HEf : Hid (∀ e ∈ evs, e.Fits) := hef
  clear hev hef
  have hCfg := fun W => config_any a b c d W ha hb hc hd
  clear ha hb hc hd
  obtain ⟨ne, Hne⟩ : ∃ n, Hid (evs.length = n) := ⟨_, rfl⟩
  rw [Hne.out]
  go_enter Tryz.func10, Tryz.ntmps10
  go_upto_region 1 with fail
  have hi1 := heap_alloc_new w (.cells #[.int .i64 a, .int .i64 b, .int .i64 c, .int .i64 d] 39)
  have B1 : Hid (Below w.heap.size w (w.alloc (.cells #[.int .i64 a, .int .i64 b, .int .i64 c, .int .i64 d] 39))) := (Below.refl _ w).alloc (Nat.le_refl _) _
  generalize w.alloc (.cells #[.int .i64 a, .int .i64 b, .int .i64 c, .int .i64 d] 39) = W1 at *
  go_wp2_with fail
  refine (HKn W1).mono ?_
  rintro e W2 ⟨rfl, hb2⟩
  have hi2 := blkBelow hi1 hb2
  have B2 : Hid (Below w.heap.size w W2) := B1.out.trans (hb2.mono B1.out.size)
  clear hi1 hb2 B1 HKn
  have s0 : W2.cell? ⟨w.heap.size, 0, none⟩ = some (.int .i64 a) := blkCell hi2 rfl
  have s1 : W2.cell? ⟨w.heap.size, 1, none⟩ = some (.int .i64 b) := blkCell hi2 rfl
  have s2 : W2.cell? ⟨w.heap.size, 2, none⟩ = some (.int .i64 c) := blkCell hi2 rfl
  have s3 : W2.cell? ⟨w.heap.size, 3, none⟩ = some (.int .i64 d) := blkCell hi2 rfl
  go_wp2_with fail
  refine (hCfg W2).mono ?_
  rintro e W3 ⟨size, slide, late, keys, rfl, hcfg, hb3⟩
  have hcf := hcfg.conf
  have hok := hcfg.ok
  have HC : Hid (CfgOk size slide late keys) := hcfg
  have B3 : Hid (Below w.heap.size w W3) := B2.out.trans (hb3.mono B2.out.size)
  clear s0 s1 s2 s3 hi2 hb3 B2 hCfg hcfg
  have HFl : Hid (∀ W, Calls Tryz.prog 19 #[.agg #[.int .i64 size, .int .i64 slide, .int .i64 late, .int .i64 keys]] W fun e w' => ∃ g, W.heap.size ≤ g ∧ e = .returned (.pointer (some ⟨g, 0, none⟩)) ∧ FlowOn w' g ⟨size, slide, late, keys⟩ (Sp.new.open 0) (List.replicate 8 []) (fun k => W.heap.size ≤ k) none ∧ Below W.heap.size W w') := fun W => flow_on size slide late keys W hcf
  unfold confV
  go_upto_region 3 with fail
  have hi4 := heap_alloc_new W3 (.cells #[.int .i64 size, .int .i64 slide, .int .i64 late, .int .i64 keys] 42)
  have B4 : Hid (Below w.heap.size w (W3.alloc (.cells #[.int .i64 size, .int .i64 slide, .int .i64 late, .int .i64 keys] 42))) := B3.out.alloc B3.out.size _
  have hbc : w.heap.size ≤ W3.heap.size := B3.out.size
  obtain ⟨C, HCeq⟩ : ∃ C, Hid (W3.heap.size = C) := ⟨_, rfl⟩
  rw [HCeq.out] at hi4 hbc ⊢
  generalize W3.alloc (.cells #[.int .i64 size, .int .i64 slide, .int .i64 late, .int .i64 keys] 42) = W4 at *
  have c0 : W4.cell? ⟨C, 0, none⟩ = some (.int .i64 size) := blkCell hi4 rfl
  have c1 : W4.cell? ⟨C, 1, none⟩ = some (.int .i64 slide) := blkCell hi4 rfl
  have c2 : W4.cell? ⟨C, 2, none⟩ = some (.int .i64 late) := blkCell hi4 rfl
  have c3 : W4.cell? ⟨C, 3, none⟩ = some (.int .i64 keys) := blkCell hi4 rfl
  have HI4 : Hid (W4.heap[C]? = some (.cells #[.int .i64 size, .int .i64 slide, .int .i64 late, .int .i64 keys] 42 (0, 0))) := hi4
  clear hi4 B3
  go_wp2_with fail
  refine (HFl.out W4).mono ?_
  rintro e W5 ⟨f, hf5, rfl, hF5, hb5⟩
  have hi5 := blkBelow HI4.out hb5
  have c0 : W5.cell? ⟨C, 0, none⟩ = some (.int .i64 size) := blkCell hi5 rfl
  have c1 : W5.cell? ⟨C, 1, none⟩ = some (.int .i64 slide) := blkCell hi5 rfl
  have c2 : W5.cell? ⟨C, 2, none⟩ = some (.int .i64 late) := blkCell hi5 rfl
  have c3 : W5.cell? ⟨C, 3, none⟩ = some (.int .i64 keys) := blkCell hi5 rfl
  have HF5 : Hid (FlowOn W5 f ⟨size, slide, late, keys⟩ (Sp.new.open 0) (List.replicate 8 []) (fun k => W4.heap.size ≤ k) none) := hF5
  have Hb5 : Hid (Below W4.heap.size W4 W5) := hb5
  clear hF5 hb5 HI4
  go_wp2_with fail
  refine (HFl.out W5).mono ?_
  rintro e W6 ⟨g, hg6, rfl, hF6, hb6⟩
  have B6 : Hid (Below w.heap.size w W6) := B4.out.trans ((Hb5.out.mono B4.out.size).trans (hb6.mono (by have := B4.out.size; have := Hb5.out.size; omega)))
  have HD : Hid (Duo w.heap.size (fun _ => False) W6 f g ⟨size, slide, late, keys⟩ (Sp.new.open 0, List.replicate 8 [], none) (Sp.new.open 0, List.replicate 8 [], none)) := Duo.start HF5.out hF6 hb6 B4.out.size Hb5.out.size
  have hi6 := blkBelow hi5 hb6
  have c1 : W6.cell? ⟨C, 1, none⟩ = some (.int .i64 slide) := blkCell hi6 rfl
  clear hb6 hF6 HF5 Hb5 B4 c0 c2 c3 HFl hf5 hg6
  go_wp2_with fail
  have hpk := pickZ_lt by_ 1000000 (by omega)
  have hq := fun W => pick_any by_ 1000000 W hby.1 hby.2 (by omega) (by omega)
  obtain ⟨P, HP⟩ : ∃ P, Hid (pickZ by_ 1000000 = P) := ⟨_, rfl⟩
  rw [HP.out] at hpk hq
  obtain ⟨D, HDd⟩ : ∃ D, Hid (P * slide = D) := ⟨_, rfl⟩
  have hDb : 0 ≤ D ∧ D ≤ 20000000 := by
    rw [← HDd.out]
    have h1 := HC.out.b1
    have h2 := HC.out.b2
    refine ⟨Int.mul_nonneg hpk.1 (by omega), ?_⟩
    have := Int.mul_le_mul (a := P) (b := slide) (c := 1000000) (d := 20) (by omega) h2 (by omega) (by omega)
    omega
  have HDv : Hid (slide ∣ D) := ⟨P, by rw [← HDd.out, Int.mul_comm]⟩
  have w1 : IntKind.i64.wrap (P * slide) = D := by rw [HDd.out, IntKind.wrap_i64]; omega
  go_quiet ((go_at_call 17; exact Calls.quiet_of_same (hq _)))
  have hb7 : Below W6.heap.size W6 (W6.drewN nq) := below_drewN (Below.refl _ W6) nq
  have B7 : Hid (Below w.heap.size w (W6.drewN nq)) := B6.out.trans (hb7.mono B6.out.size)
  have HD7 : Hid (Duo w.heap.size (fun _ => False) (W6.drewN nq) f g ⟨size, slide, late, keys⟩ (Sp.new.open 0, List.replicate 8 [], none) (shSp D (Sp.new.open 0), List.replicate 8 [], none)) := HD.out.below hb7
  clear hb7 HD B6 c1 w1 hq
  generalize W6.drewN nq = W7 at *
  go_wp2_with fail
  go_loopw [12] (fun i wr => ∃ (k : Nat) (sp : Sp), k ≤ 60 ∧ k ≤ ne ∧ i = .int .i64 (k : Int) ∧ Duo w.heap.size (fun _ => False) wr f g ⟨size, slide, late, keys⟩ (sp, List.replicate 8 [], none) (shSp D sp, List.replicate 8 [], none) ∧ Rst ⟨size, slide, late, keys⟩ sp ∧ (∃ s, sp.src[0]? = some s ∧ s.opened = true ∧ s.broken = false) ∧ sp.E.length ≤ k ∧ Below w.heap.size w wr ∧ Rst ⟨size, slide, late, keys⟩ (shSp D sp) ∧ ∀ e ∈ sp.E, -500 ≤ e.t ∧ e.t < 500) (fun i _ => 60 - (intOf i).toNat)
  case atStart => exact ⟨0, _, Nat.zero_le _, Nat.zero_le _, rfl, HD7.out, Rst.new _, ⟨_, rfl, rfl, rfl⟩, Nat.le_refl _, B7.out, Rst.new _, fun e he => (by cases he)⟩
  case round =>
    clear HD7 B7
    obtain ⟨k, sp, hk60, hkn, rfl, hdu, hrs, ⟨s, hs1, hs2, hs3⟩, hEl, hbw, hrg, hEt⟩ := hrel
    by_cases hin : k < ne ∧ k < 60
    · obtain ⟨hin1, hin2⟩ := hin
      have HDu : Hid (Duo w.heap.size (fun _ => False) wr f g ⟨size, slide, late, keys⟩ (sp, List.replicate 8 [], none) (shSp D sp, List.replicate 8 [], none)) := hdu
      have HRs : Hid (Rst ⟨size, slide, late, keys⟩ sp) := hrs
      have HBw : Hid (Below w.heap.size w wr) := hbw
      have HSr : Hid (sp.src[0]? = some s ∧ s.opened = true ∧ s.broken = false) := ⟨hs1, hs2, hs3⟩
      have hwr := hbw.size
      have HRg : Hid (Rst ⟨size, slide, late, keys⟩ (shSp D sp)) := hrg
      have HEt : Hid (∀ e ∈ sp.E, -500 ≤ e.t ∧ e.t < 500) := hEt
      clear hdu hrs hbw hs1 hs2 hs3 hrg hEt
      have hk : k < evs.length := by rw [Hne.out]; exact hin1
      have hfit := HEf.out evs[k] (List.getElem_mem hk)
      have hEB := hfit.evB
      obtain ⟨eb, eo, rfl, heb, hcell⟩ := HEv.out k hk
      have hcell : ∀ j, j < 4 → wr.cell? ⟨eb, eo + (k * 4 + j), none⟩ = (evs[k]).cells[j]? := fun j hj => by
        rw [HBw.out.cell (p := ⟨eb, eo + (k * 4 + j), none⟩) heb]; exact hcell j hj
      have e0 := hcell 0 (by omega)
      have e1 := hcell 1 (by omega)
      have e2 := hcell 2 (by omega)
      have e3 := hcell 3 (by omega)
      have HIt : Hid (∀ W, Calls Tryz.prog 23 #[.agg #[.int .i64 evs[k].k, .int .i64 evs[k].t, .int .i64 evs[k].v, .int .u32 (evs[k].tag : Int)]] W fun e w' => e = .returned (evItemV evs[k].ev) ∧ Below W.heap.size W w') := fun W => item_any evs[k].k evs[k].t evs[k].v evs[k].tag W hfit.k hfit.t
      have htb : -500 ≤ evs[k].ev.t ∧ evs[k].ev.t < 500 := by
        have := pickZ_lt evs[k].t 1000 (by omega)
        show -500 ≤ pickZ evs[k].t 1000 - 500 ∧ pickZ evs[k].t 1000 - 500 < 500
        omega
      have HEB : Hid (EvB evs[k].ev) := hEB
      clear hcell hfit hEB
      generalize evs[k].ev = EV at *
      simp only [RawE.cells, List.getElem?_toArray, List.getElem?_cons_zero, List.getElem?_cons_succ, Nat.add_zero, ← Nat.add_assoc] at e0 e1 e2 e3
      go_wp2_with fail
      refine (HIt.out wr).mono ?_
      rintro e Wa ⟨rfl, hba⟩
      unfold evItemV
      go_upto_region 12 with fail
      obtain ⟨ib, Hib⟩ : ∃ m, Hid (Wa.heap.size = m) := ⟨_, rfl⟩
      have hib : wr.heap.size ≤ ib := by have := hba.size; have := Hib.out; omega
      have hi1 := heap_alloc_new Wa (.cells #[.int .i64 1, .string EV.key, .int .i64 EV.t, .int .i64 EV.v, .int .u32 (EV.tag : Int)] 28)
      have hb1 : Below wr.heap.size wr (Wa.alloc (.cells #[.int .i64 1, .string EV.key, .int .i64 EV.t, .int .i64 EV.v, .int .u32 (EV.tag : Int)] 28)) := hba.alloc hba.size _
      rw [Hib.out] at hi1 ⊢
      have hd1 := (HDu.out.wide (X' := fun k => k = ib) (fun k hk => .inr (by omega))).below hb1
      have B1' : Hid (Below w.heap.size w (Wa.alloc (.cells #[.int .i64 1, .string EV.key, .int .i64 EV.t, .int .i64 EV.v, .int .u32 (EV.tag : Int)] 28))) := HBw.out.trans (hb1.mono hwr)
      clear hba hb1 HIt e0 e1 e2 e3
      generalize Wa.alloc (.cells #[.int .i64 1, .string EV.key, .int .i64 EV.t, .int .i64 EV.v, .int .u32 (EV.tag : Int)] 28) = Wb at *
      have hibW := blkLt hi1
      have hwb := B1'.out.size
      have HF1 : Hid (Calls Tryz.prog 24 #[.pointer (some ⟨f, 0, none⟩), .int .i64 0, .agg #[.int .i64 1, .string EV.key, .int .i64 EV.t, .int .i64 EV.v, .int .u32 (EV.tag : Int)]] Wb fun e w' => e = .returned (.bool true) ∧ Duo w.heap.size (fun k => k = ib) w' f g ⟨size, slide, late, keys⟩ ((sp.event0 ⟨size, slide, late, keys⟩ 0 EV).line ⟨size, slide, late, keys⟩, List.replicate 8 [], none) (shSp D sp, List.replicate 8 [], none) ∧ Kept (fun k => w.heap.size ≤ k ∧ ¬ k = ib) Wb w') := hd1.fed 0 EV s (fun k hk => by omega) hwb HEB.out HSr.out.1 HSr.out.2.1 HSr.out.2.2 rfl (by omega)
      have HI1 : Hid (Wb.heap[ib]? = some (.cells #[.int .i64 1, .string EV.key, .int .i64 EV.t, .int .i64 EV.v, .int .u32 (EV.tag : Int)] 28 (0, 0))) := hi1
      obtain ⟨i0, i1, i2, i3, i4⟩ := itemAt hi1
      clear hi1 hd1 HDu
      go_wp2_with fail
      refine HF1.out.mono ?_
      rintro e Wc ⟨rfl, hd2, hk2⟩
      have hi2 : Wc.heap[ib]? = some (.cells #[.int .i64 1, .string EV.key, .int .i64 EV.t, .int .i64 EV.v, .int .u32 (EV.tag : Int)] 28 (0, 0)) := by
        rw [hk2.block ib hibW (fun e => e.2 rfl)]; exact HI1.out
      have B2' : Hid (Below w.heap.size w Wc) := B1'.out.trans (hk2.toBelow hwb (fun k hk e => by omega))
      have HD2 : Hid (Duo w.heap.size (fun k => k = ib) Wc f g ⟨size, slide, late, keys⟩ ((sp.event0 ⟨size, slide, late, keys⟩ 0 EV).line ⟨size, slide, late, keys⟩, List.replicate 8 [], none) (shSp D sp, List.replicate 8 [], none)) := hd2
      clear i0 i1 i2 i3 i4 HI1 HF1 hd2 hk2 B1'
      have HI2 : Hid (Wc.heap[ib]? = some (.cells #[.int .i64 1, .string EV.key, .int .i64 EV.t, .int .i64 EV.v, .int .u32 (EV.tag : Int)] 28 (0, 0))) := hi2
      obtain ⟨i0, i1, i2, i3, i4⟩ := itemAt hi2
      have w2 : IntKind.i64.wrap (EV.t + D) = EV.t + D := by rw [IntKind.wrap_i64]; omega
      have hfz : Wc.frozen? ⟨ib, 2, none⟩ = false := by simp [World.frozen?, hi2]
      clear hi2
      go_upto_region 14 with fail
      have hk3 : Kept (fun k => k = ib) Wc (Wc.setCell ⟨ib, 2, none⟩ (.int .i64 (EV.t + D))) := (Kept.refl _ _).setCell _ _ (fun _ => rfl)
      have hi3 : (Wc.setCell ⟨ib, 2, none⟩ (.int .i64 (EV.t + D))).heap[ib]? = some (.cells #[.int .i64 1, .string EV.key, .int .i64 (EV.t + D), .int .i64 EV.v, .int .u32 (EV.tag : Int)] 28 (0, 0)) := by
        have h := HI2.out
        simp [World.setCell, Array.getElem?_modify, h]
      have hd3 := (HD2.out.kept hk3 (fun k _ hk => .inr hk)).swap
      have B3' : Hid (Below w.heap.size w (Wc.setCell ⟨ib, 2, none⟩ (.int .i64 (EV.t + D)))) := B2'.out.trans (hk3.toBelow B2'.out.size (fun k hk e => by omega))
      clear hk3 HD2 B2' HI2 i0 i1 i2 i3 i4 hfz
      generalize Wc.setCell ⟨ib, 2, none⟩ (.int .i64 (EV.t + D)) = Wd at *
      have hwd := B3'.out.size
      have hibD := blkLt hi3
      have hEB2 : EvB (shE D EV) := by
        have h := HEB.out
        exact ⟨h.k1, h.k2, by show _ ≤ EV.t + D; omega, by show EV.t + D < _; omega, h.v1, h.v2, h.tg⟩
      have HEq : Hid (((shSp D sp).event0 ⟨size, slide, late, keys⟩ 0 (shE D EV)).line ⟨size, slide, late, keys⟩ = shSp D ((sp.event0 ⟨size, slide, late, keys⟩ 0 EV).line ⟨size, slide, late, keys⟩)) := by
        show _ = _
        rw [event_sh D _ sp 0 EV HDv.out (by unfold outB; simp only [Bool.or_eq_false_iff, decide_eq_false_iff_not]; omega) (by unfold outB shE; simp only [Bool.or_eq_false_iff, decide_eq_false_iff_not]; omega), line_sh]
      have HF2 : Hid (Calls Tryz.prog 24 #[.pointer (some ⟨g, 0, none⟩), .int .i64 0, .agg #[.int .i64 1, .string EV.key, .int .i64 (EV.t + D), .int .i64 EV.v, .int .u32 (EV.tag : Int)]] Wd fun e w' => e = .returned (.bool true) ∧ Duo w.heap.size (fun k => k = ib) w' g f ⟨size, slide, late, keys⟩ (shSp D ((sp.event0 ⟨size, slide, late, keys⟩ 0 EV).line ⟨size, slide, late, keys⟩), List.replicate 8 [], none) ((sp.event0 ⟨size, slide, late, keys⟩ 0 EV).line ⟨size, slide, late, keys⟩, List.replicate 8 [], none) ∧ Kept (fun k => w.heap.size ≤ k ∧ ¬ k = ib) Wd w') := by
        have := hd3.fed 0 (shE D EV) (shS D s) (fun k hk => by omega) hwd hEB2 (by show (sp.src.map (shS D))[0]? = _; rw [List.getElem?_map, HSr.out.1]; rfl) HSr.out.2.1 HSr.out.2.2 rfl (by show (sp.E.map (shE D)).length < _; rw [List.length_map]; omega)
        rw [HEq.out] at this
        exact this
      obtain ⟨i0, i1, i2, i3, i4⟩ := itemAt hi3
      clear hi3 hd3 hEB2
      go_wp2_with fail
      refine HF2.out.mono ?_
      rintro e We ⟨rfl, hd4, hk4⟩
      have HD4 : Hid (Duo w.heap.size (fun _ => False) We f g ⟨size, slide, late, keys⟩ ((sp.event0 ⟨size, slide, late, keys⟩ 0 EV).line ⟨size, slide, late, keys⟩, List.replicate 8 [], none) (shSp D ((sp.event0 ⟨size, slide, late, keys⟩ 0 EV).line ⟨size, slide, late, keys⟩), List.replicate 8 [], none)) := hd4.swap.wide (fun k hk => hk.elim)
      have HB4 : Hid (Below w.heap.size w We) := B3'.out.trans (hk4.toBelow hwd (fun k hk e => by omega))
      have HR5 : Hid (Rst ⟨size, slide, late, keys⟩ (shSp D ((sp.event0 ⟨size, slide, late, keys⟩ 0 EV).line ⟨size, slide, late, keys⟩))) := by
        have h5 := HRg.out.event HC.out.b5 0 (shS D s) (by show (sp.src.map (shS D))[0]? = _; rw [List.getElem?_map, HSr.out.1]; rfl) (shE D EV)
        rw [HEq.out] at h5
        exact h5
      have HEt5 : Hid (∀ e ∈ ((sp.event0 ⟨size, slide, late, keys⟩ 0 EV).line ⟨size, slide, late, keys⟩).E, -500 ≤ e.t ∧ e.t < 500) := fun e he => by
        rcases event_mem _ _ _ _ he with h | h
        · exact HEt.out e h
        · rw [h]; exact htb
      have HLn : Hid (((sp.event0 ⟨size, slide, late, keys⟩ 0 EV).line ⟨size, slide, late, keys⟩).E.length ≤ k + 1) := Nat.le_trans (event_len _ _ _ _) (by omega)
      have HOp : Hid (∃ s', ((sp.event0 ⟨size, slide, late, keys⟩ 0 EV).line ⟨size, slide, late, keys⟩).src[0]? = some s' ∧ s'.opened = true ∧ s'.broken = false) := event_open _ _ _ _ s HSr.out.1 HSr.out.2.1 HSr.out.2.2
      clear hd4 hk4 HF2 B3' i0 i1 i2 i3 i4 HEq
      have HR4 : Hid (Rst ⟨size, slide, late, keys⟩ ((sp.event0 ⟨size, slide, late, keys⟩ 0 EV).line ⟨size, slide, late, keys⟩)) := HRs.out.event HC.out.b5 0 s HSr.out.1 EV
      go_wp2_with fail
      go_roundw
      case rel => exact ⟨k + 1, _, by omega, by omega, by go_num, HD4.out, HR4.out, HOp.out, HLn.out, HB4.out, HR5.out, HEt5.out⟩
      case measure => simp [intOf]; omega
    · have hcase : (k < ne ∧ ¬ k < 60) ∨ ¬ k < ne := by omega
      have hEl2 : sp.E.length ≤ 60 := by omega
      have HDu : Hid (Duo w.heap.size (fun _ => False) wr f g ⟨size, slide, late, keys⟩ (sp, List.replicate 8 [], none) (shSp D sp, List.replicate 8 [], none)) := hdu
      have HRs : Hid (Rst ⟨size, slide, late, keys⟩ ((sp.mark0 0 9999).line ⟨size, slide, late, keys⟩)) := hrs.mark HC.out.b5 0 s hs1 9999
      have HMs : Hid (((shSp D sp).mark0 0 (9999 + D)).line ⟨size, slide, late, keys⟩ = shSp D ((sp.mark0 0 9999).line ⟨size, slide, late, keys⟩)) := by
        show _ = _
        rw [mark_sh D 9999 sp 0 (by unfold clampT; omega) (by unfold clampT; omega), line_sh]
      have HRg : Hid (Rst ⟨size, slide, late, keys⟩ (shSp D ((sp.mark0 0 9999).line ⟨size, slide, late, keys⟩))) := by
        have h5 := hrg.mark HC.out.b5 0 (shS D s) (by show (sp.src.map (shS D))[0]? = _; rw [List.getElem?_map, hs1]; rfl) (9999 + D)
        rw [HMs.out] at h5
        exact h5
      have HEt : Hid (∀ e ∈ ((sp.mark0 0 9999).line ⟨size, slide, late, keys⟩).E, -500 ≤ e.t ∧ e.t < 500) := hEt
      have HEl : Hid (((sp.mark0 0 9999).line ⟨size, slide, late, keys⟩).E.length ≤ 60) := hEl2
      have HBw : Hid (Below w.heap.size w wr) := hbw
      have hwr := hbw.size
      have HSr : Hid (sp.src[0]? = some s ∧ s.opened = true ∧ s.broken = false) := ⟨hs1, hs2, hs3⟩
      have w3 : IntKind.i64.wrap (9999 + D) = 9999 + D := by rw [IntKind.wrap_i64]; omega
      clear hin hdu hrs hrg hEt hbw hs1 hs2 hs3 hEl
      rcases hcase with ⟨hin1, hin2⟩ | hin1
      all_goals
        go_wp2_with fail
        refine (mark_any 9999 wr).mono ?_
        rintro e Wa ⟨bv, rfl, hrb, hgb, hbb⟩
        have hd1 := (HDu.out.wide (X' := fun k => bv.ownBlock = some k) (fun k hk => .inr (hgb k hk))).below hbb
        have HB1 : Hid (Below w.heap.size w Wa) := HBw.out.trans (hbb.mono hwr)
        have hwa := HB1.out.size
        have HMf : Hid (Calls Tryz.prog 20 #[.pointer (some ⟨f, 0, none⟩), .int .i64 0, bv] Wa fun e w' => e = .returned (.int .i64 0) ∧ Duo w.heap.size (fun k => bv.ownBlock = some k) w' f g ⟨size, slide, late, keys⟩ ((sp.mark0 0 9999).line ⟨size, slide, late, keys⟩, List.replicate 8 [], none) (shSp D sp, List.replicate 8 [], none) ∧ Kept (fun k => w.heap.size ≤ k ∧ ¬ bv.ownBlock = some k) Wa w') :=
          hd1.mark 0 9999 bv s (fun k hk => (hrb.blk_lt hk).1) hwa (by omega) (by omega) hrb HSr.out.1 HSr.out.2.1 HSr.out.2.2 rfl (by omega)
        clear hd1 HDu hrb hgb hbb HBw
        go_wp2_with fail
        refine HMf.out.mono ?_
        rintro e Wb ⟨rfl, hd2, hk2⟩
        have HB2 : Hid (Below w.heap.size w Wb) := HB1.out.trans (hk2.toBelow hwa (fun k hk e => by omega))
        have HD2 : Hid (Duo w.heap.size (fun _ => False) Wb f g ⟨size, slide, late, keys⟩ ((sp.mark0 0 9999).line ⟨size, slide, late, keys⟩, List.replicate 8 [], none) (shSp D sp, List.replicate 8 [], none)) := hd2.wide (fun k hk => hk.elim)
        clear hd2 hk2 HMf HB1
        go_wp2_with fail
        refine (mark_any (9999 + D) Wb).mono ?_
        rintro e Wc ⟨cv, rfl, hrc, hgc, hbc'⟩
        have hd3 := ((HD2.out.wide (X' := fun k => cv.ownBlock = some k) (fun k hk => .inr (hgc k hk))).below hbc').swap
        have HB3 : Hid (Below w.heap.size w Wc) := HB2.out.trans (hbc'.mono HB2.out.size)
        have hwc := HB3.out.size
        have HMg : Hid (Calls Tryz.prog 20 #[.pointer (some ⟨g, 0, none⟩), .int .i64 0, cv] Wc fun e w' => e = .returned (.int .i64 0) ∧ Duo w.heap.size (fun k => cv.ownBlock = some k) w' g f ⟨size, slide, late, keys⟩ (shSp D ((sp.mark0 0 9999).line ⟨size, slide, late, keys⟩), List.replicate 8 [], none) ((sp.mark0 0 9999).line ⟨size, slide, late, keys⟩, List.replicate 8 [], none) ∧ Kept (fun k => w.heap.size ≤ k ∧ ¬ cv.ownBlock = some k) Wc w') := by
          have h6 := hd3.mark 0 (9999 + D) cv (shS D s) (fun k hk => (hrc.blk_lt hk).1) hwc (by omega) (by omega) hrc (by show (sp.src.map (shS D))[0]? = _; rw [List.getElem?_map, HSr.out.1]; rfl) HSr.out.2.1 HSr.out.2.2 rfl (by show (sp.E.map (shE D)).length < _; rw [List.length_map]; omega)
          rw [HMs.out] at h6
          exact h6
        clear hd3 HD2 hrc hgc hbc' HB2
        go_wp2_with fail
        refine HMg.out.mono ?_
        rintro e W8 ⟨rfl, hd3, hk3⟩
        have HB8 : Hid (Below w.heap.size w W8) := HB3.out.trans (hk3.toBelow hwc (fun k hk e => by omega))
        have hw8 := HB8.out.size
        have hd3 := (hd3.wide (X' := fun _ => False) (fun k hk => hk.elim)).swap
        clear hk3 HMg HB3 HMs HSr w3
        generalize (sp.mark0 0 9999).line ⟨size, slide, late, keys⟩ = sp3 at *
        have HTa : Hid (Calls Tryz.prog 25 #[.pointer (some ⟨f, 0, none⟩)] W8 fun e w' => ∃ ov ys, e = .returned ov ∧ WinsAt w' ov ys 0 ∧ DoneOk size slide none sp3.lt sp3.li sp3.E (ys.map WinX.w) ∧ (∀ k, OutB ov ys k → W8.heap.size ≤ k ∧ k < w'.heap.size) ∧ Duo w.heap.size (fun k => False ∨ OutB ov ys k) w' f g ⟨size, slide, late, keys⟩ (sp3, List.replicate 8 [], tookT sp3 none) (shSp D sp3, List.replicate 8 [], none) ∧ Kept (fun k => w.heap.size ≤ k ∧ ¬ False) W8 w') :=
          hd3.take HRis HSo (fun k hk => hk.elim) hw8 HRs.out.li (Nat.le_trans HEl.out (by omega)) hok.a6 HRs.out.lt
        clear hd3
        go_wp2_with fail
        refine HTa.out.mono ?_
        rintro e W9 ⟨ov1, ys1, rfl, hw1, hdn1, ho1, hd1, hk1⟩
        have hw9 : w.heap.size ≤ W9.heap.size := by have := hk1.size; omega
        have hX1 : ∀ k, (False ∨ OutB ov1 ys1 k) → k < W9.heap.size := fun k hk => by
          rcases hk with hk | hk
          · exact hk.elim
          · exact (ho1 k hk).2
        have HTb : Hid (Calls Tryz.prog 25 #[.pointer (some ⟨g, 0, none⟩)] W9 fun e w' => ∃ ov ys, e = .returned ov ∧ WinsAt w' ov ys 0 ∧ DoneOk size slide none (shSp D sp3).lt (shSp D sp3).li (shSp D sp3).E (ys.map WinX.w) ∧ (∀ k, OutB ov ys k → W9.heap.size ≤ k ∧ k < w'.heap.size) ∧ Duo w.heap.size (fun k => (False ∨ OutB ov1 ys1 k) ∨ OutB ov ys k) w' g f ⟨size, slide, late, keys⟩ (shSp D sp3, List.replicate 8 [], tookT (shSp D sp3) none) (sp3, List.replicate 8 [], tookT sp3 none) ∧ Kept (fun k => w.heap.size ≤ k ∧ ¬ (False ∨ OutB ov1 ys1 k)) W9 w') :=
          hd1.swap.take HRis HSo hX1 hw9 HRg.out.li (by show (sp3.E.map (shE D)).length ≤ _; rw [List.length_map]; exact Nat.le_trans HEl.out (by omega)) hok.a6 HRg.out.lt
        have HW1 : Hid (WinsAt W9 ov1 ys1 0) := hw1
        have HN1 : Hid (DoneOk size slide none sp3.lt sp3.li sp3.E (ys1.map WinX.w)) := hdn1
        have HX1 : Hid (∀ k, (False ∨ OutB ov1 ys1 k) → k < W9.heap.size) := hX1
        have HB9 : Hid (Below w.heap.size w W9) := HB8.out.trans (hk1.toBelow hw8 (fun k hk e => by omega))
        have HL1 : Hid (∀ k, OutB ov1 ys1 k → w.heap.size ≤ k) := fun k hk => by have := (ho1 k hk).1; omega
        clear hw1 hdn1 ho1 hd1 hk1 hX1 HTa HB8
        go_wp2_with fail
        refine HTb.out.mono ?_
        rintro e Wa0 ⟨ov2, ys2, rfl, hw2, hdn2, ho2, hd2, hk2⟩
        have HS : Hid ((ys1.map WinX.w).map (shW D) = ys2.map WinX.w) := (done_sh D size slide sp3.lt sp3.li sp3.E (ys1.map WinX.w) HDv.out HN1.out).uniq hdn2
        have HSb : Hid (∀ x ∈ ys1, -500 - size < x.w.start ∧ x.w.start < 500) := fun x hx => HN1.out.bound HEt.out (List.mem_map.2 ⟨x, hx, rfl⟩)
        have HW2 : Hid (WinsAt Wa0 ov1 ys1 0) := HW1.out.kept hk2 (fun k hk e => e.2 (.inr (.inl hk))) (fun x hx k hk e => e.2 (.inr (.inr ⟨x, hx, hk⟩)))
        have HV2 : Hid (WinsAt Wa0 ov2 ys2 0) := hw2
        have HO2 : Hid (∀ k, OutB ov2 ys2 k → ¬ OutB ov1 ys1 k) := fun k hk hk' => by
          have q1 := (ho2 k hk).1
          have q2 := HX1.out k (.inr hk')
          omega
        obtain ⟨X2, HX2⟩ : ∃ X2 : Nat → Prop, Hid ((fun k => (False ∨ OutB ov1 ys1 k) ∨ OutB ov2 ys2 k) = X2) := ⟨_, rfl⟩
        have hO1 : ∀ k, OutB ov1 ys1 k → X2 k := fun k hk => by rw [← HX2.out]; exact .inl (.inr hk)
        have hX2 : ∀ k, X2 k → k < Wa0.heap.size := fun k hk => by
          rw [← HX2.out] at hk
          rcases hk with hk | hk
          · have := HX1.out k hk; have := hk2.size; omega
          · exact (ho2 k hk).2
        rw [HX2.out] at hd2
        have hwa0 : w.heap.size ≤ Wa0.heap.size := by have := hk2.size; omega
        have HBa : Hid (Below w.heap.size w Wa0) := HB9.out.trans (hk2.toBelow hw9 (fun k hk e => by omega))
        have HD0 : Hid (Duo w.heap.size X2 Wa0 f g ⟨size, slide, late, keys⟩ (sp3, List.replicate 8 [], tookT sp3 none) (shSp D sp3, List.replicate 8 [], tookT (shSp D sp3) none)) := hd2.swap
        have HX : Hid (∀ k, X2 k → k < Wa0.heap.size) := hX2
        have HO1 : Hid (∀ k, OutB ov1 ys1 k → X2 k) := hO1
        obtain ⟨n1, Hn1⟩ : ∃ n, Hid (ys1.length = n) := ⟨_, rfl⟩
        obtain ⟨oa, oc, hov⟩ := HW2.out.len
        have hn1 : n1 ≤ 9223372036854775807 := by
          rw [← Hn1.out]
          rcases HW2.out.row with ⟨h1, h2⟩ | ⟨g', off, n, cap, cur, h1, _, hn, hc, _⟩
          · rw [hov] at h1
            simp only [Value.slice.injEq] at h1
            omega
          · rw [hov] at h1
            simp only [Value.slice.injEq] at h1
            unfold maxLen at hc
            omega
        rw [Hn1.out] at hov
        subst hov
        clear hw2 hdn2 ho2 hd2 hk2 HTb HW1 HX1 HB9 HN1 HX2 hX2 hO1
        go_wp2_with fail
        go_loopw [18] (fun i wr => ∃ k : Nat, k ≤ n1 ∧ i = .int .i64 (k : Int) ∧ WinsAt wr (.slice oa n1 oc) (laterX D k ys1) 0 ∧ WinsAt wr ov2 ys2 0 ∧ Duo w.heap.size X2 wr f g ⟨size, slide, late, keys⟩ (sp3, List.replicate 8 [], tookT sp3 none) (shSp D sp3, List.replicate 8 [], tookT (shSp D sp3) none) ∧ Below w.heap.size w wr ∧ Wa0.heap.size ≤ wr.heap.size) (fun i _ => n1 - (intOf i).toNat)
        · exact ⟨0, Nat.zero_le _, rfl, HW2.out, HV2.out, HD0.out, HBa.out, Nat.le_refl _⟩
        · obtain ⟨k, hkn1, rfl, hwa1, hva1, hda1, hba1, hsa1⟩ := hrel
          by_cases hlt : k < n1
          · have hk' : k < ys1.length := by rw [Hn1.out]; exact hlt
            have hl1 := laterX_len D k ys1
            obtain ⟨og, oo, rfl⟩ : ∃ g off, oa = some ⟨g, off, none⟩ := by
              obtain ⟨g', off, n, cap, h5, -, -⟩ := hwa1.row.shape (fun h6 => by have := winFlat_len (laterX D k ys1); rw [h6, List.length_nil] at this; omega)
              simp only [Value.slice.injEq] at h5
              exact ⟨g', off, h5.1⟩
            have x1 : wr.cell? ⟨og, oo + k * 7 + 1, none⟩ = some (.int .i64 ys1[k].w.start) := hwa1.cellAt (laterX_at D k ys1 hk') 1 (by omega)
            have hfz : wr.frozen? ⟨og, oo + k * 7 + 1, none⟩ = false := hwa1.row.frozen _
            have hsb := HSb.out ys1[k] (List.getElem_mem hk')
            have hcb := HC.out.b4
            have hcb2 := HC.out.b2
            have w4 : IntKind.i64.wrap (ys1[k].w.start + D) = ys1[k].w.start + D := by rw [IntKind.wrap_i64]; omega
            have HWn : Hid (WinsAt (wr.setCell ⟨og, oo + k * 7 + 1, none⟩ (.int .i64 (ys1[k].w.start + D))) (.slice (some ⟨og, oo, none⟩) n1 oc) (laterX D (k + 1) ys1) 0) := hwa1.later D k hk'
            have hkp : Kept (fun j => j = og) wr (wr.setCell ⟨og, oo + k * 7 + 1, none⟩ (.int .i64 (ys1[k].w.start + D))) := (Kept.refl _ _).setCell _ _ (fun _ => rfl)
            have hog : OutB (.slice (some ⟨og, oo, none⟩) n1 oc) ys1 og := .inl rfl
            have HVn : Hid (WinsAt (wr.setCell ⟨og, oo + k * 7 + 1, none⟩ (.int .i64 (ys1[k].w.start + D))) ov2 ys2 0) := hva1.kept hkp (fun j hj e => HO2.out j (.inl hj) (e ▸ hog)) (fun x hx j hj e => HO2.out j (.inr ⟨x, hx, hj⟩) (e ▸ hog))
            have HDn : Hid (Duo w.heap.size X2 (wr.setCell ⟨og, oo + k * 7 + 1, none⟩ (.int .i64 (ys1[k].w.start + D))) f g ⟨size, slide, late, keys⟩ (sp3, List.replicate 8 [], tookT sp3 none) (shSp D sp3, List.replicate 8 [], tookT (shSp D sp3) none)) := hda1.kept hkp (fun j _ hj => .inr (HO1.out j (hj ▸ hog)))
            have hogw : w.heap.size ≤ og := HL1.out og hog
            have HBn : Hid (Below w.heap.size w (wr.setCell ⟨og, oo + k * 7 + 1, none⟩ (.int .i64 (ys1[k].w.start + D)))) := hba1.trans (hkp.toBelow hba1.size (fun j hj e => by omega))
            have HSn : Hid (Wa0.heap.size ≤ (wr.setCell ⟨og, oo + k * 7 + 1, none⟩ (.int .i64 (ys1[k].w.start + D))).heap.size) := by
              show _ ≤ _
              simpa [World.setCell] using hsa1
            clear hwa1 hva1 hda1 hba1 hsa1 hkp hsb
            go_wp2_with fail
            go_roundw
            · exact ⟨k + 1, by omega, by go_num, HWn.out, HVn.out, HDn.out, HBn.out, HSn.out⟩
            · simp [intOf]; omega
          · have hk9 : k = n1 := by omega
            have hS9 : (laterX D k ys1).map WinX.w = ys2.map WinX.w := by
              rw [hk9, ← Hn1.out, laterX_all]; exact HS.out
            have HSA : Hid (Calls Tryz.prog 30 #[.slice oa n1 oc, ov2] wr fun e w' => e = .returned (.bool true) ∧ Below wr.heap.size wr w') := sameAll_any _ ov2 _ ys2 wr hwa1 hva1 hS9
            have HDn : Hid (Duo w.heap.size X2 wr f g ⟨size, slide, late, keys⟩ (sp3, List.replicate 8 [], tookT sp3 none) (shSp D sp3, List.replicate 8 [], tookT (shSp D sp3) none)) := hda1
            have HBn : Hid (Below w.heap.size w wr) := hba1
            have HXn : Hid (∀ k, X2 k → k < wr.heap.size) := fun k hk => by have := HX.out k hk; omega
            clear hk9 hS9 hwa1 hva1 hda1 hba1 hsa1 HX HD0 HBa HS HW2 HV2
            go_wp2_with fail
            refine HSA.out.mono ?_
            rintro e Wa3 ⟨rfl, hb3⟩
            have hd3 := HDn.out.below hb3
            have hs3 := hb3.size
            have HBb : Hid (Below w.heap.size w Wa3) := HBn.out.trans (hb3.mono HBn.out.size)
            have hwb := HBb.out.size
            have HCf : Hid (Calls Tryz.prog 27 #[.pointer (some ⟨f, 0, none⟩)] Wa3 fun e w' => e = .returned (countsV sp3.n) ∧ Duo w.heap.size X2 w' f g ⟨size, slide, late, keys⟩ (sp3, List.replicate 8 [], tookT sp3 none) (shSp D sp3, List.replicate 8 [], tookT (shSp D sp3) none) ∧ Kept (fun k => w.heap.size ≤ k ∧ ¬ X2 k) Wa3 w') := hd3.counts (fun k hk => by have := HXn.out k hk; omega) hwb
            have HX3 : Hid (∀ k, X2 k → k < Wa3.heap.size) := fun k hk => by have := HXn.out k hk; omega
            clear hb3 hd3 HSA HDn HBn HXn
            go_wp2_with fail
            refine HCf.out.mono ?_
            rintro e Wa4 ⟨rfl, hd4, hk4⟩
            have HB4 : Hid (Below w.heap.size w Wa4) := HBb.out.trans (hk4.toBelow hwb (fun k hk e => by omega))
            have hs4 := hk4.size
            have HD4 : Hid (Duo w.heap.size X2 Wa4 f g ⟨size, slide, late, keys⟩ (sp3, List.replicate 8 [], tookT sp3 none) (shSp D sp3, List.replicate 8 [], tookT (shSp D sp3) none)) := hd4
            clear hd4 hk4 HCf HBb
            unfold countsV
            go_upto_region 27 with fail
            obtain ⟨mb, Hmb⟩ : ∃ m, Hid (Wa4.heap.size = m) := ⟨_, rfl⟩
            have hi4 := heap_alloc_new Wa4 (.cells #[.int .i64 sp3.n.taken, .int .i64 sp3.n.late, .int .i64 sp3.n.range, .int .i64 sp3.n.full, .int .i64 sp3.n.marks, .int .i64 sp3.n.broken] 58)
            have hb4 : Below Wa4.heap.size Wa4 (Wa4.alloc (.cells #[.int .i64 sp3.n.taken, .int .i64 sp3.n.late, .int .i64 sp3.n.range, .int .i64 sp3.n.full, .int .i64 sp3.n.marks, .int .i64 sp3.n.broken] 58)) := (Below.refl _ Wa4).alloc (Nat.le_refl _) _
            have hd5 := (HD4.out.wide (X' := fun k => X2 k ∨ k = Wa4.heap.size) (fun k hk => hk.imp id (fun h => by omega))).below hb4
            have HB5 : Hid (Below w.heap.size w (Wa4.alloc (.cells #[.int .i64 sp3.n.taken, .int .i64 sp3.n.late, .int .i64 sp3.n.range, .int .i64 sp3.n.full, .int .i64 sp3.n.marks, .int .i64 sp3.n.broken] 58))) := HB4.out.trans (hb4.mono HB4.out.size)
            have hs5 := hb4.size
            rw [Hmb.out] at hi4 hd5 ⊢
            clear hb4 HD4 HB4
            generalize Wa4.alloc (.cells #[.int .i64 sp3.n.taken, .int .i64 sp3.n.late, .int .i64 sp3.n.range, .int .i64 sp3.n.full, .int .i64 sp3.n.marks, .int .i64 sp3.n.broken] 58) = Wa5 at *
            have hw5 := HB5.out.size
            have HCg : Hid (Calls Tryz.prog 27 #[.pointer (some ⟨g, 0, none⟩)] Wa5 fun e w' => e = .returned (countsV sp3.n) ∧ Duo w.heap.size (fun k => X2 k ∨ k = mb) w' g f ⟨size, slide, late, keys⟩ (shSp D sp3, List.replicate 8 [], tookT (shSp D sp3) none) (sp3, List.replicate 8 [], tookT sp3 none) ∧ Kept (fun k => w.heap.size ≤ k ∧ ¬ (X2 k ∨ k = mb)) Wa5 w') := hd5.swap.counts (fun k hk => by
              rcases hk with hk | hk
              · have := HX3.out k hk; omega
              · rw [hk]; exact blkLt hi4) hw5
            have HI4 : Hid (Wa5.heap[mb]? = some (.cells #[.int .i64 sp3.n.taken, .int .i64 sp3.n.late, .int .i64 sp3.n.range, .int .i64 sp3.n.full, .int .i64 sp3.n.marks, .int .i64 sp3.n.broken] 58 (0, 0))) := hi4
            clear hi4 hd5
            unfold countsV at HCg
            go_wp2_with fail
            refine HCg.out.mono ?_
            rintro e Wa6 ⟨rfl, -, hk6⟩
            have hi6 : Wa6.heap[mb]? = some (.cells #[.int .i64 sp3.n.taken, .int .i64 sp3.n.late, .int .i64 sp3.n.range, .int .i64 sp3.n.full, .int .i64 sp3.n.marks, .int .i64 sp3.n.broken] 58 (0, 0)) := by
              rw [hk6.block mb (blkLt HI4.out) (fun e => e.2 (.inr rfl))]; exact HI4.out
            have HI6 : Hid (Wa6.heap[mb]? = some (.cells #[.int .i64 sp3.n.taken, .int .i64 sp3.n.late, .int .i64 sp3.n.range, .int .i64 sp3.n.full, .int .i64 sp3.n.marks, .int .i64 sp3.n.broken] 58 (0, 0))) := hi6
            have HB6 : Hid (Below w.heap.size w Wa6) := HB5.out.trans (hk6.toBelow hw5 (fun k hk e => by omega))
            clear hi6 hk6 HCg HB5 HI4
            go_upto_region 28 with fail
            obtain ⟨nb, Hnb⟩ : ∃ m, Hid (Wa6.heap.size = m) := ⟨_, rfl⟩
            have hj7 := heap_alloc_new Wa6 (.cells #[.int .i64 sp3.n.taken, .int .i64 sp3.n.late, .int .i64 sp3.n.range, .int .i64 sp3.n.full, .int .i64 sp3.n.marks, .int .i64 sp3.n.broken] 58)
            have hb7 : Below Wa6.heap.size Wa6 (Wa6.alloc (.cells #[.int .i64 sp3.n.taken, .int .i64 sp3.n.late, .int .i64 sp3.n.range, .int .i64 sp3.n.full, .int .i64 sp3.n.marks, .int .i64 sp3.n.broken] 58)) := (Below.refl _ Wa6).alloc (Nat.le_refl _) _
            have hi7 := blkBelow HI6.out hb7
            have HB7 : Hid (Below w.heap.size w (Wa6.alloc (.cells #[.int .i64 sp3.n.taken, .int .i64 sp3.n.late, .int .i64 sp3.n.range, .int .i64 sp3.n.full, .int .i64 sp3.n.marks, .int .i64 sp3.n.broken] 58))) := HB6.out.trans (hb7.mono HB6.out.size)
            rw [Hnb.out] at hj7 ⊢
            clear hb7 HB6 HI6
            generalize Wa6.alloc (.cells #[.int .i64 sp3.n.taken, .int .i64 sp3.n.late, .int .i64 sp3.n.range, .int .i64 sp3.n.full, .int .i64 sp3.n.marks, .int .i64 sp3.n.broken] 58) = Wa7 at *
            have m0 : Wa7.cell? ⟨mb, 0, none⟩ = some (.int .i64 sp3.n.taken) := blkCell hi7 rfl
            have m1 : Wa7.cell? ⟨mb, 1, none⟩ = some (.int .i64 sp3.n.late) := blkCell hi7 rfl
            have m2 : Wa7.cell? ⟨mb, 2, none⟩ = some (.int .i64 sp3.n.range) := blkCell hi7 rfl
            have m3 : Wa7.cell? ⟨mb, 3, none⟩ = some (.int .i64 sp3.n.full) := blkCell hi7 rfl
            have m4 : Wa7.cell? ⟨mb, 4, none⟩ = some (.int .i64 sp3.n.marks) := blkCell hi7 rfl
            have m5 : Wa7.cell? ⟨mb, 5, none⟩ = some (.int .i64 sp3.n.broken) := blkCell hi7 rfl
            have n0 : Wa7.cell? ⟨nb, 0, none⟩ = some (.int .i64 sp3.n.taken) := blkCell hj7 rfl
            have n1' : Wa7.cell? ⟨nb, 1, none⟩ = some (.int .i64 sp3.n.late) := blkCell hj7 rfl
            have n2 : Wa7.cell? ⟨nb, 2, none⟩ = some (.int .i64 sp3.n.range) := blkCell hj7 rfl
            have n3 : Wa7.cell? ⟨nb, 3, none⟩ = some (.int .i64 sp3.n.full) := blkCell hj7 rfl
            have n4 : Wa7.cell? ⟨nb, 4, none⟩ = some (.int .i64 sp3.n.marks) := blkCell hj7 rfl
            have n5 : Wa7.cell? ⟨nb, 5, none⟩ = some (.int .i64 sp3.n.broken) := blkCell hj7 rfl
            clear hi7 hj7
            go_wp2_with fail
            go_ret
            exact ⟨rfl, HB7.out⟩
end Go.Proofs.YtcfngdnmpogaoaaGreat
