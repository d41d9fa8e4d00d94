import Derived.Test.YtcfngdnmpogaoaaGreatHnA01
namespace Go.Proofs.YtcfngdnmpogaoaaGreat
open Go.RowKit

structure RawS where
  kind : Int
  src : Int
  r : RawE
def RawS.cells (s : RawS) : Array Value := #[.int .i64 s.kind, .int .i64 s.src, .int .i64 s.r.k, .int .i64 s.r.t, .int .i64 s.r.v, .int .u32 (s.r.tag : Int)]
structure RawS.Fits (s : RawS) : Prop where
  kind : i64B s.kind
  src : i64B s.src
  ev : s.r.Fits
def StepsAt (w : World) (v : Value) (evs : List RawS) : Prop :=
  ∃ a cap, v = .slice a evs.length cap ∧ ∀ i (h : i < evs.length), ∃ b off, a = some ⟨b, off, none⟩ ∧ b < w.heap.size ∧ ∀ j, j < 6 → w.cell? ⟨b, off + (i * 6 + j), none⟩ = (evs[i]).cells[j]?

set_option maxRecDepth 20000 in
set_option maxHeartbeats 40000000 in
theorem honest_any (HRis : RisingOk) (HSrt : SortOk) (HKn : ∀ w, Calls Tryz.prog 14 #[] w fun e w' => e = .returned (.bool true) ∧ Below w.heap.size w w')
    (a b c d : Int) (ha : i64B a) (hb : i64B b) (hc : i64B c) (hd : i64B d) (ev : Value) (evs : List RawS) (w : World) (hev : StepsAt w ev evs)
    (hef : ∀ e ∈ evs, e.Fits) :
    Calls Tryz.prog 8 #[.agg #[.int .i64 a, .int .i64 b, .int .i64 c, .int .i64 d], ev] w fun e w' => e = .returned (.bool true) ∧ Below w.heap.size w w' := by
  obtain ⟨ea, ecap, rfl, hev⟩ := hev
  have HEv : Hid (∀ i (h : i < evs.length), ∃ b off, ea = some ⟨b, off, none⟩ ∧ b < w.heap.size ∧ ∀ j, j < 6 → w.cell? ⟨b, off + (i * 6 + j), none⟩ = (evs[i]).cells[j]?) := hev
  have HEf : Hid (∀ e ∈ evs, e.Fits) := hef
  clear hev hef
  have hCfg := fun W => config_any a b c d W ha hb hc hd
  clear ha hb hc hd
  obtain ⟨ne, Hne⟩ : ∃ n, Hid (evs.length = n) := ⟨_, rfl⟩
  rw [Hne.out]
  go_enter Tryz.func8, Tryz.ntmps8
  go_upto_region 1 with fail
  have hi1 := heap_alloc_new w (.cells #[.int .i64 a, .int .i64 b, .int .i64 c, .int .i64 d] 39)
  have B1 : Hid (Below w.heap.size w (w.alloc (.cells #[.int .i64 a, .int .i64 b, .int .i64 c, .int .i64 d] 39))) := (Below.refl _ w).alloc (Nat.le_refl _) _
  generalize w.alloc (.cells #[.int .i64 a, .int .i64 b, .int .i64 c, .int .i64 d] 39) = W1 at *
  go_wp2_with fail
  refine (HKn W1).mono ?_
  rintro e W2 ⟨rfl, hb2⟩
  have hi2 := blkBelow hi1 hb2
  have B2 : Hid (Below w.heap.size w W2) := B1.out.trans (hb2.mono B1.out.size)
  clear hi1 hb2 B1 HKn
  have s0 : W2.cell? ⟨w.heap.size, 0, none⟩ = some (.int .i64 a) := blkCell hi2 rfl
  have s1 : W2.cell? ⟨w.heap.size, 1, none⟩ = some (.int .i64 b) := blkCell hi2 rfl
  have s2 : W2.cell? ⟨w.heap.size, 2, none⟩ = some (.int .i64 c) := blkCell hi2 rfl
  have s3 : W2.cell? ⟨w.heap.size, 3, none⟩ = some (.int .i64 d) := blkCell hi2 rfl
  go_wp2_with fail
  refine (hCfg W2).mono ?_
  rintro e W3 ⟨size, slide, late, keys, rfl, hcfg, hb3⟩
  have hcf := hcfg.conf
  have hok := hcfg.ok
  have HC : Hid (CfgOk size slide late keys) := hcfg
  have B3 : Hid (Below w.heap.size w W3) := B2.out.trans (hb3.mono B2.out.size)
  clear s0 s1 s2 s3 hi2 hb3 B2 hCfg hcfg
  have HFl : Hid (∀ W, Calls Tryz.prog 19 #[.agg #[.int .i64 size, .int .i64 slide, .int .i64 late, .int .i64 keys]] W fun e w' => ∃ g, W.heap.size ≤ g ∧ e = .returned (.pointer (some ⟨g, 0, none⟩)) ∧ FlowOn w' g ⟨size, slide, late, keys⟩ (Sp.new.open 0) (List.replicate 8 []) (fun k => W.heap.size ≤ k) none ∧ Below W.heap.size W w') := fun W => flow_on size slide late keys W hcf
  unfold confV
  go_upto_region 3 with fail
  have hi4 := heap_alloc_new W3 (.cells #[.int .i64 size, .int .i64 slide, .int .i64 late, .int .i64 keys] 42)
  have B4 : Hid (Below w.heap.size w (W3.alloc (.cells #[.int .i64 size, .int .i64 slide, .int .i64 late, .int .i64 keys] 42))) := B3.out.alloc B3.out.size _
  have hbc : w.heap.size ≤ W3.heap.size := B3.out.size
  obtain ⟨C, HCeq⟩ : ∃ C, Hid (W3.heap.size = C) := ⟨_, rfl⟩
  rw [HCeq.out] at hi4 hbc ⊢
  generalize W3.alloc (.cells #[.int .i64 size, .int .i64 slide, .int .i64 late, .int .i64 keys] 42) = W5 at *
  have c0 : W5.cell? ⟨C, 0, none⟩ = some (.int .i64 size) := blkCell hi4 rfl
  have c1 : W5.cell? ⟨C, 1, none⟩ = some (.int .i64 slide) := blkCell hi4 rfl
  have c2 : W5.cell? ⟨C, 2, none⟩ = some (.int .i64 late) := blkCell hi4 rfl
  have c3 : W5.cell? ⟨C, 3, none⟩ = some (.int .i64 keys) := blkCell hi4 rfl
  have HI5 : Hid (W5.heap[C]? = some (cfgC ⟨size, slide, late, keys⟩)) := hi4
  clear hi4 B3
  go_wp2_with fail
  refine (HFl.out W5).mono ?_
  rintro e W6 ⟨f, hf6, rfl, hF6, hb6⟩
  have hC5 : C < W5.heap.size := (Array.getElem?_eq_some_iff.1 HI5.out).1
  have HS6 : Hid (HSt w W6 f C ⟨size, slide, late, keys⟩ (Sp.new.open 0) none [] (.slice none 0 0) (.slice none 0 0) [] (fun _ => False)) := by
    refine ⟨⟨_, hF6.lt, fun k hk => ⟨by have := hk.1; have := B4.out.size; omega, hk.2, fun h3 => ?_⟩⟩, Row.nil _ _ _, ⟨Row.nil _ _ _, fun x hx => (by cases hx), fun _ _ => Nat.zero_le _, fun _ => rfl⟩, ?_, B4.out.trans (hb6.mono B4.out.size), fun j hj => (by cases hj), fun j hj => ?_, fun j hj => hj.elim⟩
    · have hk1 := hk.1
      rcases h3 with h3 | h3 | (h3 | ⟨x, hx, _⟩) | h3
      · omega
      · cases h3
      · cases h3
      · cases hx
      · exact h3
    · show W6.heap[C]? = _
      rw [hb6.block C hC5]; exact HI5.out
    · rcases hj with hj | ⟨x, hx, _⟩
      · cases hj
      · cases hx
  clear hF6 hb6 HFl hf6 c0 c1 c2 c3 HI5 B4
  have hz1 := HC.out.b3
  have hz2 := HC.out.b4
  have hz3 := HC.out.b1
  have hz4 := HC.out.b2
  have hl1 := HC.out.b5
  have hl2 := HC.out.b6
  go_wp2_with fail
  go_loopw [8, 9, 10, 11, 12, 13] (fun tv lv sn ws hd i wr => ∃ (k : Nat) (sp : Sp) (ls : List WinX), k ≤ 100 ∧ k ≤ ne ∧ i = .int .i64 (k : Int) ∧ hd = .bool sp.li ∧ ws = .int .i64 sp.lt ∧ sn = .int .i64 (sp.n.taken + sp.n.late + sp.n.full + sp.n.marks) ∧ sp.n.taken + sp.n.late + sp.n.full + sp.n.marks ≤ (k : Int) ∧ HOk ⟨size, slide, late, keys⟩ sp ∧ DoneOk size slide none sp.lt sp.li sp.E (ls.map WinX.w) ∧ HSt w wr f C ⟨size, slide, late, keys⟩ sp (toldOf sp) sp.E tv lv ls (fun _ => False)) (fun _ _ _ _ _ i _ => 100 - (intOf i).toNat)
  case atStart => exact ⟨0, Sp.new.open 0, [], Nat.zero_le _, Nat.zero_le _, rfl, rfl, rfl, rfl, Int.le_refl _, HOk.new _, DoneOk.void size slide none _ _, HS6.out⟩
  case round =>
    clear HS6
    obtain ⟨k, sp, ls, hk100, hkn, rfl, rfl, rfl, rfl, hsum, hho, hdn, hst⟩ := hrel
    have HHo : Hid (HOk ⟨size, slide, late, keys⟩ sp) := hho
    have HDn : Hid (DoneOk size slide none sp.lt sp.li sp.E (ls.map WinX.w)) := hdn
    have HS0 : Hid (HSt w wr f C ⟨size, slide, late, keys⟩ sp (toldOf sp) sp.E u8 u9 ls (fun _ => False)) := hst
    have hwr := hst.below.size
    clear hho hdn hst
    by_cases hin : k < ne ∧ k < 100
    · obtain ⟨hin1, hin2⟩ := hin
      have hk : k < evs.length := by rw [Hne.out]; exact hin1
      have hfit := HEf.out evs[k] (List.getElem_mem hk)
      have HCo : Hid (Calls Tryz.prog 27 #[.pointer (some ⟨f, 0, none⟩)] wr fun e w' => e = .returned (countsV sp.n) ∧ Solo w.heap.size (fun j => j = C ∨ u8.ownBlock = some j ∨ OutB u9 ls j ∨ False) w' f ⟨size, slide, late, keys⟩ sp (toldOf sp) ∧ Kept (fun j => w.heap.size ≤ j ∧ ¬ (j = C ∨ u8.ownBlock = some j ∨ OutB u9 ls j ∨ False)) wr w') := HS0.out.solo.counts HS0.out.lt hwr
      go_wp2_with fail
      refine HCo.out.mono ?_
      rintro e Wa ⟨rfl, hsa, hka⟩
      have HSa : Hid (HSt w Wa f C ⟨size, slide, late, keys⟩ sp (toldOf sp) sp.E u8 u9 ls (fun _ => False)) := (HS0.out.after hsa hka).1
      clear hsa hka HCo HS0
      unfold countsV
      go_upto_region 15 with fail
      have HSb : Hid (HSt w (Wa.alloc (.cells #[.int .i64 sp.n.taken, .int .i64 sp.n.late, .int .i64 sp.n.range, .int .i64 sp.n.full, .int .i64 sp.n.marks, .int .i64 sp.n.broken] 58)) f C ⟨size, slide, late, keys⟩ sp (toldOf sp) sp.E u8 u9 ls (fun j => False ∨ j = Wa.heap.size)) := HSa.out.box _
      have hi1 := heap_alloc_new Wa (.cells #[.int .i64 sp.n.taken, .int .i64 sp.n.late, .int .i64 sp.n.range, .int .i64 sp.n.full, .int .i64 sp.n.marks, .int .i64 sp.n.broken] 58)
      obtain ⟨B1, HB1⟩ : ∃ B, Hid (Wa.heap.size = B) := ⟨_, rfl⟩
      rw [HB1.out] at HSb hi1 ⊢
      generalize Wa.alloc (.cells #[.int .i64 sp.n.taken, .int .i64 sp.n.late, .int .i64 sp.n.range, .int .i64 sp.n.full, .int .i64 sp.n.marks, .int .i64 sp.n.broken] 58) = Wb at *
      have HI1 : Hid (Wb.heap[B1]? = some (.cells #[.int .i64 sp.n.taken, .int .i64 sp.n.late, .int .i64 sp.n.range, .int .i64 sp.n.full, .int .i64 sp.n.marks, .int .i64 sp.n.broken] 58 (0, 0))) := hi1
      clear hi1 HSa
      have hwb := HSb.out.below.size
      obtain ⟨eb, eo, rfl, heb, hcell0⟩ := HEv.out k hk
      have hcell : ∀ j, j < 6 → Wb.cell? ⟨eb, eo + (k * 6 + j), none⟩ = (evs[k]).cells[j]? := fun j hj => by
        rw [HSb.out.below.cell (p := ⟨eb, eo + (k * 6 + j), none⟩) heb]; exact hcell0 j hj
      have e0 := hcell 0 (by omega)
      have e1 := hcell 1 (by omega)
      have e2 := hcell 2 (by omega)
      have e3 := hcell 3 (by omega)
      have e4 := hcell 4 (by omega)
      have e5 := hcell 5 (by omega)
      have hrf := raw_facts _ hfit.ev
      have HDo : Hid (Calls Tryz.prog 28 #[.pointer (some ⟨f, 0, none⟩), .agg #[.int .i64 evs[k].kind, .int .i64 evs[k].src, .int .i64 evs[k].r.k, .int .i64 evs[k].r.t, .int .i64 evs[k].r.v, .int .u32 (evs[k].r.tag : Int)]] Wb fun e w' => ∃ (sp' : Sp) (ok : Bool), e = .returned (.tuple #[evItemV evs[k].r.ev, .bool ok]) ∧ Solo w.heap.size (fun j => j = C ∨ u8.ownBlock = some j ∨ OutB u9 ls j ∨ (False ∨ j = B1)) w' f ⟨size, slide, late, keys⟩ sp' (toldOf sp) ∧ HOk ⟨size, slide, late, keys⟩ sp' ∧ Went sp sp' evs[k].r.ev (if ok = true then 1 else 0) ∧ Kept (fun j => w.heap.size ≤ j ∧ ¬ (j = C ∨ u8.ownBlock = some j ∨ OutB u9 ls j ∨ (False ∨ j = B1))) Wb w') :=
        does_any w.heap.size _ Wb f ⟨size, slide, late, keys⟩ sp (toldOf sp) HSb.out.solo HSb.out.lt hwb HHo.out hl1 evs[k].kind evs[k].src evs[k].r hfit.kind hfit.src hfit.ev (by have := HHo.out.n0; have := HHo.out.tk; omega)
      simp only [RawS.cells, List.getElem?_toArray, List.getElem?_cons_zero, List.getElem?_cons_succ, Nat.add_zero, ← Nat.add_assoc] at e0 e1 e2 e3 e4 e5
      have HRf : Hid (-500 ≤ evs[k].r.ev.t ∧ evs[k].r.ev.t < 500 ∧ evs[k].r.ev.fits ∧ evs[k].r.ev.key ∈ keys5) := hrf
      clear hcell hcell0 hfit hrf
      generalize evs[k].r.ev = EV at *
      go_wp2_with fail
      refine HDo.out.mono ?_
      rintro e Wc ⟨sp', ok, rfl, hsc, hhc, hwt, hkc⟩
      have HHc : Hid (HOk ⟨size, slide, late, keys⟩ sp') := hhc
      have HWt : Hid (Went sp sp' EV (if ok = true then 1 else 0)) := hwt
      have HSc : Hid (HSt w Wc f C ⟨size, slide, late, keys⟩ sp' (toldOf sp) sp.E u8 u9 ls (fun j => False ∨ j = B1)) := (HSb.out.after hsc hkc).1
      have HI2 : Hid (Wc.heap[B1]? = some (.cells #[.int .i64 sp.n.taken, .int .i64 sp.n.late, .int .i64 sp.n.range, .int .i64 sp.n.full, .int .i64 sp.n.marks, .int .i64 sp.n.broken] 58 (0, 0))) := by show _ = _; rw [(HSb.out.after hsc hkc).2 B1 (.inr rfl)]; exact HI1.out
      clear hsc hhc hwt hkc HDo HSb HI1 e0 e1 e2 e3 e4 e5
      unfold evItemV
      go_upto_region 16 with fail
      have HSd : Hid (HSt w (Wc.alloc (.cells #[.int .i64 1, .string EV.key, .int .i64 EV.t, .int .i64 EV.v, .int .u32 (EV.tag : Int)] 28)) f C ⟨size, slide, late, keys⟩ sp' (toldOf sp) sp.E u8 u9 ls (fun j => (False ∨ j = B1) ∨ j = Wc.heap.size)) := HSc.out.box _
      have hi1 := heap_alloc_new Wc (.cells #[.int .i64 1, .string EV.key, .int .i64 EV.t, .int .i64 EV.v, .int .u32 (EV.tag : Int)] 28)
      have HI3 : Hid ((Wc.alloc (.cells #[.int .i64 1, .string EV.key, .int .i64 EV.t, .int .i64 EV.v, .int .u32 (EV.tag : Int)] 28)).heap[B1]? = some (.cells #[.int .i64 sp.n.taken, .int .i64 sp.n.late, .int .i64 sp.n.range, .int .i64 sp.n.full, .int .i64 sp.n.marks, .int .i64 sp.n.broken] 58 (0, 0))) := blkBelow HI2.out ((Below.refl _ Wc).alloc (Nat.le_refl _) _)
      obtain ⟨B2, HB2⟩ : ∃ B, Hid (Wc.heap.size = B) := ⟨_, rfl⟩
      have h12 : B1 < B2 := by rw [← HB2.out]; exact blkLt HI2.out
      have HT2 : Hid (∀ j, u8.ownBlock = some j → j < B2) := fun j hj => by rw [← HB2.out]; exact HSc.out.lt j (.inr (.inl hj))
      rw [HB2.out] at HSd hi1 ⊢
      generalize Wc.alloc (.cells #[.int .i64 1, .string EV.key, .int .i64 EV.t, .int .i64 EV.v, .int .u32 (EV.tag : Int)] 28) = Wd at *
      have HJ3 : Hid (Wd.heap[B2]? = some (.cells #[.int .i64 1, .string EV.key, .int .i64 EV.t, .int .i64 EV.v, .int .u32 (EV.tag : Int)] 28 (0, 0))) := hi1
      clear hi1 HSc HI2
      have hwd := HSd.out.below.size
      have HCo : Hid (Calls Tryz.prog 27 #[.pointer (some ⟨f, 0, none⟩)] Wd fun e w' => e = .returned (countsV sp'.n) ∧ Solo w.heap.size (fun j => j = C ∨ u8.ownBlock = some j ∨ OutB u9 ls j ∨ ((False ∨ j = B1) ∨ j = B2)) w' f ⟨size, slide, late, keys⟩ sp' (toldOf sp) ∧ Kept (fun j => w.heap.size ≤ j ∧ ¬ (j = C ∨ u8.ownBlock = some j ∨ OutB u9 ls j ∨ ((False ∨ j = B1) ∨ j = B2))) Wd w') := HSd.out.solo.counts HSd.out.lt hwd
      go_wp2_with fail
      refine HCo.out.mono ?_
      rintro e We ⟨rfl, hse, hke⟩
      have HSe : Hid (HSt w We f C ⟨size, slide, late, keys⟩ sp' (toldOf sp) sp.E u8 u9 ls (fun j => (False ∨ j = B1) ∨ j = B2)) := (HSd.out.after hse hke).1
      have HI4 : Hid (We.heap[B1]? = some (.cells #[.int .i64 sp.n.taken, .int .i64 sp.n.late, .int .i64 sp.n.range, .int .i64 sp.n.full, .int .i64 sp.n.marks, .int .i64 sp.n.broken] 58 (0, 0))) := by show _ = _; rw [(HSd.out.after hse hke).2 B1 (.inl (.inr rfl))]; exact HI3.out
      have HJ4 : Hid (We.heap[B2]? = some (.cells #[.int .i64 1, .string EV.key, .int .i64 EV.t, .int .i64 EV.v, .int .u32 (EV.tag : Int)] 28 (0, 0))) := by show _ = _; rw [(HSd.out.after hse hke).2 B2 (.inr rfl)]; exact HJ3.out
      clear hse hke HCo HSd HI3 HJ3
      unfold countsV
      rw [HHc.out.z.1, HHc.out.z.2]
      go_upto_region 17 with fail
      have HSf : Hid (HSt w (We.alloc (.cells #[.int .i64 sp'.n.taken, .int .i64 sp'.n.late, .int .i64 0, .int .i64 sp'.n.full, .int .i64 sp'.n.marks, .int .i64 0] 58)) f C ⟨size, slide, late, keys⟩ sp' (toldOf sp) sp.E u8 u9 ls (fun j => ((False ∨ j = B1) ∨ j = B2) ∨ j = We.heap.size)) := HSe.out.box _
      have hi1 := heap_alloc_new We (.cells #[.int .i64 sp'.n.taken, .int .i64 sp'.n.late, .int .i64 0, .int .i64 sp'.n.full, .int .i64 sp'.n.marks, .int .i64 0] 58)
      have HI5 : Hid ((We.alloc (.cells #[.int .i64 sp'.n.taken, .int .i64 sp'.n.late, .int .i64 0, .int .i64 sp'.n.full, .int .i64 sp'.n.marks, .int .i64 0] 58)).heap[B1]? = some (.cells #[.int .i64 sp.n.taken, .int .i64 sp.n.late, .int .i64 sp.n.range, .int .i64 sp.n.full, .int .i64 sp.n.marks, .int .i64 sp.n.broken] 58 (0, 0))) := blkBelow HI4.out ((Below.refl _ We).alloc (Nat.le_refl _) _)
      have HJ5 : Hid ((We.alloc (.cells #[.int .i64 sp'.n.taken, .int .i64 sp'.n.late, .int .i64 0, .int .i64 sp'.n.full, .int .i64 sp'.n.marks, .int .i64 0] 58)).heap[B2]? = some (.cells #[.int .i64 1, .string EV.key, .int .i64 EV.t, .int .i64 EV.v, .int .u32 (EV.tag : Int)] 28 (0, 0))) := blkBelow HJ4.out ((Below.refl _ We).alloc (Nat.le_refl _) _)
      obtain ⟨B3, HB3⟩ : ∃ B, Hid (We.heap.size = B) := ⟨_, rfl⟩
      rw [HB3.out] at HSf hi1 ⊢
      generalize We.alloc (.cells #[.int .i64 sp'.n.taken, .int .i64 sp'.n.late, .int .i64 0, .int .i64 sp'.n.full, .int .i64 sp'.n.marks, .int .i64 0] 58) = Wf at *
      have HK5 : Hid (Wf.heap[B3]? = some (.cells #[.int .i64 sp'.n.taken, .int .i64 sp'.n.late, .int .i64 0, .int .i64 sp'.n.full, .int .i64 sp'.n.marks, .int .i64 0] 58 (0, 0))) := hi1
      clear hi1 HSe HI4 HJ4
      obtain ⟨S, HSm⟩ : ∃ S, Hid (sp.n.taken + sp.n.late + sp.n.full + sp.n.marks = S) := ⟨_, rfl⟩
      obtain ⟨S', HSm'⟩ : ∃ S', Hid (sp'.n.taken + sp'.n.late + sp'.n.full + sp'.n.marks = S') := ⟨_, rfl⟩
      have HSs : Hid (S' = S + if ok = true then 1 else 0) := by
        show _ = _
        rw [← HSm.out, ← HSm'.out]; exact HWt.out.sum
      have HS0 : Hid (0 ≤ S ∧ S ≤ 100) := by
        have := HHo.out.n0
        have := HHo.out.tk
        have := HSm.out
        show _ ∧ _
        omega
      rw [HSm.out]
      rw [HSm.out] at hsum
      have hSb := HS0.out
      have hwS : IntKind.i64.wrap (S + 1) = S + 1 := by rw [IntKind.wrap_i64]; omega
      go_upto_if 58 with fail
      go_cut [10] from 35 to 171 (fun s10 wx => s10 = .int .i64 S' ∧ wx = Wf)
      case first =>
        cases ok with
        | true =>
          go_wp2_with fail
          go_meet
          exact ⟨by rw [HSs.out]; rfl, rfl⟩
        | false =>
          go_wp2_with fail
          go_meet
          exact ⟨by rw [HSs.out]; simp, rfl⟩
      case rest =>
      obtain ⟨rfl, hwc⟩ := hcut
      rw [hwc]
      clear hwc
      obtain ⟨o0, o1, o2, o3, o4, o5, -⟩ := cells6At HI5.out
      obtain ⟨m0, m1, m2, m3, m4, m5, -⟩ := cells6At HK5.out
      go_upto_if 65 with fail
      clear o0 o1 o2 o3 o4 o5 m0 m1 m2 m3 m4 m5
      go_cut [8, 12] from 35 to 171 (fun s8 s12 wx => s12 = .bool sp.li ∧ HSt w wx f C ⟨size, slide, late, keys⟩ sp' (toldOf sp) sp'.E s8 u9 ls (fun j => ((False ∨ j = B1) ∨ j = B2) ∨ j = B3) ∧ wx.heap[B1]? = some (.cells #[.int .i64 sp.n.taken, .int .i64 sp.n.late, .int .i64 sp.n.range, .int .i64 sp.n.full, .int .i64 sp.n.marks, .int .i64 sp.n.broken] 58 (0, 0)) ∧ wx.heap[B2]? = some (.cells #[.int .i64 1, .string EV.key, .int .i64 EV.t, .int .i64 EV.v, .int .u32 (EV.tag : Int)] 28 (0, 0)) ∧ wx.heap[B3]? = some (.cells #[.int .i64 sp'.n.taken, .int .i64 sp'.n.late, .int .i64 0, .int .i64 sp'.n.full, .int .i64 sp'.n.marks, .int .i64 0] 58 (0, 0)))
      case first =>
        rcases HWt.out.ev with ⟨hE', ht', -, hle⟩ | ⟨hE', ht', -⟩
        · have hlt : sp.n.taken < sp'.n.taken := by omega
          have HEq : Hid (sp'.E = sp.E ++ [EV]) := hE'
          have HLe : Hid (sp.li = true → sp.lt ≤ EV.t) := hle
          have HEl : Hid (sp.E.length ≤ 100) := by
            have := HHo.out.tk
            have := HHo.out.n0
            have := HSm.out
            show _ ≤ _
            omega
          clear hE' ht' hle
          obtain ⟨d0, d1, d2, d3, d4⟩ := itemAt HJ5.out
          obtain ⟨va, vc, hva, -⟩ := itemRow HSf.out.row
          have HVa : Hid (u8 = .slice va sp.E.length vc) := hva
          have HRb : Hid (Row Wf 28 5 (.slice va sp.E.length vc) (sp.E.flatMap evCells)) := by
            have h5 := HSf.out.row
            rw [hva] at h5
            exact h5
          have HLen : Hid ((sp.E.flatMap evCells).length = 5 * sp.E.length) := evFlat_len _
          rw [hva]
          clear hva
          obtain ⟨i, hi, hz0, hz1', hz2'⟩ := info_parts info28
          have hEl := HEl.out
          go_wp2_with (at_builtin; go_must (refine wpList_append _ rfl _ _ _ _ rfl 28 i (.agg #[.int .i64 0, .string ⟨#[]⟩, .int .i64 0, .int .i64 0, .int .u32 0]) 5 48 Tryz.underlying49 hi hz0 hz1' hz2' rfl (by decide) (.slice va sp.E.length vc) (sp.E.flatMap evCells) rfl (HRb.out.alloc _) (.slice (some ⟨Wf.heap.size, 0, none⟩) 1 1) 1 (evCells EV) rfl (item_src Wf EV) Nat.one_pos ?h63 ?hby ?next))
          case h63 => rw [HLen.out]; simp only [maxLen]; omega
          case hby => rw [HLen.out]; omega
          intro v4 Wg ha4
          have hbx : Below Wf.heap.size Wf (Wf.alloc (.cells #[.int .i64 1, .string EV.key, .int .i64 EV.t, .int .i64 EV.v, .int .u32 (EV.tag : Int)] 28)) := (Below.refl _ Wf).alloc (Nat.le_refl _) _
          have hsx := HSf.out.mono (X' := fun j => ((False ∨ j = B1) ∨ j = B2) ∨ j = B3) hbx (fun j hj => .inl hj)
          rw [← HVa.out] at ha4
          have hXt : ∀ j, (((False ∨ j = B1) ∨ j = B2) ∨ j = B3) → u8.ownBlock ≠ some j := fun j hj e => by
            rcases hj with ((hj | hj) | hj) | hj
            · exact hj
            · subst hj
              exact (HSf.out.row.ne_block HI5.out (by decide)) e
            · have := HT2.out j e
              omega
            · subst hj
              exact (HSf.out.row.ne_block HK5.out (by decide)) e
          obtain ⟨hsg, hbk⟩ := hsx.took ha4 hXt
          rw [← HEq.out] at hsg
          have HSg : Hid (HSt w Wg f C ⟨size, slide, late, keys⟩ sp' (toldOf sp) sp'.E v4 u9 ls (fun j => ((False ∨ j = B1) ∨ j = B2) ∨ j = B3)) := hsg
          have HI6 : Hid (Wg.heap[B1]? = some (.cells #[.int .i64 sp.n.taken, .int .i64 sp.n.late, .int .i64 sp.n.range, .int .i64 sp.n.full, .int .i64 sp.n.marks, .int .i64 sp.n.broken] 58 (0, 0))) := by show _ = _; rw [hbk B1 (.inl (.inl (.inr rfl)))]; exact blkBelow HI5.out hbx
          have hJ6 : Wg.heap[B2]? = some (.cells #[.int .i64 1, .string EV.key, .int .i64 EV.t, .int .i64 EV.v, .int .u32 (EV.tag : Int)] 28 (0, 0)) := by rw [hbk B2 (.inl (.inr rfl))]; exact blkBelow HJ5.out hbx
          have HJ6 : Hid (Wg.heap[B2]? = some (.cells #[.int .i64 1, .string EV.key, .int .i64 EV.t, .int .i64 EV.v, .int .u32 (EV.tag : Int)] 28 (0, 0))) := hJ6
          have HK6 : Hid (Wg.heap[B3]? = some (.cells #[.int .i64 sp'.n.taken, .int .i64 sp'.n.late, .int .i64 0, .int .i64 sp'.n.full, .int .i64 sp'.n.marks, .int .i64 0] 58 (0, 0))) := by show _ = _; rw [hbk B3 (.inr rfl)]; exact blkBelow HK5.out hbx
          obtain ⟨a4, c4, hv4, -⟩ := itemRow hsg.row
          subst hv4
          clear d0 d1 d2 d3 d4
          obtain ⟨d0, d1, d2, d3, d4⟩ := itemAt hJ6
          clear ha4 hbx hsx hXt hsg hbk hJ6
          cases hli : sp.li with
          | true =>
            have hnl : ¬ EV.t < sp.lt := by have := HLe.out hli; omega
            go_wp2_with fail
            go_meet
            exact ⟨by rw [hli], HSg.out, HI6.out, HJ6.out, HK6.out⟩
          | false =>
            go_wp2_with fail
            go_meet
            exact ⟨by rw [hli], HSg.out, HI6.out, HJ6.out, HK6.out⟩
        · have hlt : ¬ sp.n.taken < sp'.n.taken := by omega
          have HEq : Hid (sp'.E = sp.E) := hE'
          clear hE' ht'
          go_wp2_with fail
          go_meet
          exact ⟨rfl, by rw [HEq.out]; exact HSf.out, HI5.out, HJ5.out, HK5.out⟩
      case rest =>
      obtain ⟨rfl, hsg, hI6, hJ6, hK6⟩ := hcut
      clear HSf HI5 HJ5 HK5 HT2
      generalize wc = Wg at *
      have HSg : Hid (HSt w Wg f C ⟨size, slide, late, keys⟩ sp' (toldOf sp) sp'.E u8 u9 ls (fun j => ((False ∨ j = B1) ∨ j = B2) ∨ j = B3)) := hsg
      obtain ⟨o0, o1, o2, o3, o4, o5, -⟩ := cells6At hI6
      obtain ⟨m0, m1, m2, m3, m4, m5, -⟩ := cells6At hK6
      obtain ⟨d0, d1, d2, d3, d4⟩ := itemAt hJ6
      clear hsg hI6 hJ6 hK6
      have hla : (¬ sp.n.late < sp'.n.late) ∨ (sp.n.late < sp'.n.late ∧ sp.li = true ∧ ¬ sp.lt ≤ EV.t) := by
        rcases HWt.out.ev with ⟨-, -, h5, -⟩ | ⟨-, -, h5 | ⟨h5, h6, h7⟩⟩
        · exact .inl (by omega)
        · exact .inl (by omega)
        · exact .inr ⟨by omega, h6, by omega⟩
      go_upto_region 23 with fail
      go_cut [12, 91] from 35 to 171 (fun s12 s91 wx => s12 = .bool sp.li ∧ s91 = .bool false ∧ wx = Wg)
      case first =>
        rcases hla with hla | ⟨hla, hli, hnl⟩
        · go_wp2_with fail
          go_meet
          exact ⟨rfl, rfl, rfl⟩
        · go_wp2_with fail
          go_meet
          exact ⟨by rw [hli], rfl, rfl⟩
      case rest =>
      obtain ⟨rfl, rfl, hwc⟩ := hcut
      rw [hwc]
      clear hwc hla
      have hSb' : 0 ≤ S' ∧ S' ≤ 101 := by
        have h5 := HSs.out
        have h6 := HS0.out
        split at h5 <;> omega
      have hbs : (0 ≤ sp'.n.taken ∧ sp'.n.taken ≤ 101) ∧ (0 ≤ sp'.n.late ∧ sp'.n.late ≤ 101) ∧ (0 ≤ sp'.n.full ∧ sp'.n.full ≤ 101) ∧ (0 ≤ sp'.n.marks ∧ sp'.n.marks ≤ 101) := by
        have := HHc.out.n0
        have := HHc.out.tk
        have := HSm'.out
        omega
      have HEl : Hid (sp'.E.length ≤ 101) := by
        have := HHc.out.tk
        show _ ≤ _
        omega
      have hw1 : IntKind.i64.wrap (sp'.n.taken + sp'.n.late) = sp'.n.taken + sp'.n.late := by rw [IntKind.wrap_i64]; omega
      have hw2 : IntKind.i64.wrap (sp'.n.taken + sp'.n.late + sp'.n.full) = sp'.n.taken + sp'.n.late + sp'.n.full := by rw [IntKind.wrap_i64]; omega
      have hw3 : IntKind.i64.wrap (sp'.n.taken + sp'.n.late + sp'.n.full + sp'.n.marks) = S' := by rw [HSm'.out, IntKind.wrap_i64]; omega
      have hwg := HSg.out.below.size
      have HLn : Hid (Calls Tryz.prog 29 #[.pointer (some ⟨f, 0, none⟩)] Wg fun e w' => e = .returned (.tuple #[.int .i64 sp'.lt, .bool sp'.li]) ∧ Solo w.heap.size (fun j => j = C ∨ u8.ownBlock = some j ∨ OutB u9 ls j ∨ (((False ∨ j = B1) ∨ j = B2) ∨ j = B3)) w' f ⟨size, slide, late, keys⟩ sp' (toldOf sp) ∧ Kept (fun j => w.heap.size ≤ j ∧ ¬ (j = C ∨ u8.ownBlock = some j ∨ OutB u9 ls j ∨ (((False ∨ j = B1) ∨ j = B2) ∨ j = B3))) Wg w') := HSg.out.solo.line HSg.out.lt hwg
      clear hbs
      go_wp2_with fail
      refine HLn.out.mono ?_
      rintro e Wh ⟨rfl, hsh, hkh⟩
      have HSh : Hid (HSt w Wh f C ⟨size, slide, late, keys⟩ sp' (toldOf sp) sp'.E u8 u9 ls (fun j => ((False ∨ j = B1) ∨ j = B2) ∨ j = B3)) := (HSg.out.after hsh hkh).1
      clear hsh hkh HLn HSg o0 o1 o2 o3 o4 o5 m0 m1 m2 m3 m4 m5 d0 d1 d2 d3 d4 hw1 hw2 hw3
      go_upto_region 28 with fail
      go_cut [12, 19, 129] from 35 to 171 (fun s12 s19 s129 wx => s12 = .bool sp.li ∧ s19 = .bool sp'.li ∧ s129 = .bool false ∧ wx = Wh)
      case first =>
        cases hli : sp.li with
        | true =>
          obtain ⟨hli', hlt'⟩ := HWt.out.up hli
          have hnl : ¬ sp'.lt < sp.lt := by omega
          clear hlt'
          go_wp2_with fail
          go_meet
          exact ⟨by rw [hli], by rw [hli'], rfl, rfl⟩
        | false =>
          go_wp2_with fail
          go_meet
          exact ⟨by rw [hli], rfl, rfl, rfl⟩
      case rest =>
      obtain ⟨rfl, rfl, rfl, hwc⟩ := hcut
      rw [hwc]
      clear hwc
      have hwh := HSh.out.below.size
      have HTk : Hid (Calls Tryz.prog 25 #[.pointer (some ⟨f, 0, none⟩)] Wh fun e w' => ∃ ov ys, e = .returned ov ∧ WinsAt w' ov ys 0 ∧ DoneOk size slide (toldOf sp) sp'.lt sp'.li sp'.E (ys.map WinX.w) ∧ (∀ k, OutB ov ys k → Wh.heap.size ≤ k ∧ k < w'.heap.size) ∧ Solo w.heap.size (fun j => (j = C ∨ u8.ownBlock = some j ∨ OutB u9 ls j ∨ (((False ∨ j = B1) ∨ j = B2) ∨ j = B3)) ∨ OutB ov ys j) w' f ⟨size, slide, late, keys⟩ sp' (tookT sp' (toldOf sp)) ∧ Kept (fun j => w.heap.size ≤ j ∧ ¬ (j = C ∨ u8.ownBlock = some j ∨ OutB u9 ls j ∨ (((False ∨ j = B1) ∨ j = B2) ∨ j = B3))) Wh w') :=
        HSh.out.solo.take HRis HSrt HSh.out.lt hwh HHc.out.rst.li (Nat.le_trans HEl.out (by omega)) hok.a6 HHc.out.rst.lt
      go_wp2_with fail
      refine HTk.out.mono ?_
      rintro e Wi ⟨ov, ys, rfl, hwi, hdi, hoi, hsi, hki⟩
      rw [tookT_told sp sp' (fun h => (HWt.out.up h).1)] at hsi
      have HSi : Hid (HSt w Wi f C ⟨size, slide, late, keys⟩ sp' (toldOf sp') sp'.E u8 u9 ls (fun j => OutB ov ys j)) := HSh.out.taken hoi hsi hki
      have HWi : Hid (WinsAt Wi ov ys 0) := hwi
      have HDi : Hid (DoneOk size slide (toldOf sp) sp'.lt sp'.li sp'.E (ys.map WinX.w)) := hdi
      have HOi : Hid (∀ j, OutB ov ys j → w.heap.size ≤ j) := fun j hj => by have := (hoi j hj).1; omega
      have HY : Hid (∀ y ∈ ys, sp'.li = true ∧ ¬ sp'.lt < y.w.start + size ∧ (sp.li = true → ¬ y.w.start + size ≤ sp.lt) ∧ -500 - size < y.w.start ∧ y.w.start < 500) := fun y hy => by
        obtain ⟨key, s, ⟨p1, ⟨e, he, _, _, p2, p3⟩, p4, p5⟩, p6⟩ := (hdi.mem y.w).1 (List.mem_map.2 ⟨y, hy, rfl⟩)
        have := HHc.out.E e he
        rw [p6, (winF_key key s size sp'.E).2]
        refine ⟨p1, by omega, fun hli => ?_, by omega, by omega⟩
        unfold toldOf at p5
        rw [hli, if_pos rfl] at p5
        exact of_decide_eq_false p5
      have HDj : Hid (DoneOk size slide none sp'.lt sp'.li sp'.E ((ls ++ ys).map WinX.w)) := by
        have h5 : DoneOk size slide none sp.lt sp.li sp'.E (ls.map WinX.w) := by
          rcases HWt.out.ev with ⟨h6, -, -, h7⟩ | ⟨h6, -, -⟩
          · rw [h6]; exact HDn.out.event EV h7
          · rw [h6]; exact HDn.out
        show DoneOk _ _ _ _ _ _ _
        rw [List.map_append]
        exact h5.join hdi HWt.out.up
      have HLl : Hid (ls.length ≤ 200000 ∧ ys.length ≤ 200000) := by
        have h5 := HDj.out.fewW
        rw [List.length_map, List.length_append] at h5
        have h6 : sp'.E.length * size.toNat ≤ 101 * 820 := Nat.mul_le_mul HEl.out (by omega)
        show _ ∧ _
        omega
      obtain ⟨oa, oc, hov⟩ := hwi.len
      obtain ⟨ny, Hny⟩ : ∃ n, Hid (ys.length = n) := ⟨_, rfl⟩
      rw [Hny.out] at hov
      subst hov
      have hny : ny ≤ 200000 := by rw [← Hny.out]; exact HLl.out.2
      clear hwi hdi hoi hsi hki HTk HSh HDn
      go_wp2_with fail
      go_loopw [21] (fun c21 wr => ∃ j : Nat, j ≤ ny ∧ c21 = .int .i64 (j : Int) ∧ ∃ m, wr = Wi.drewN m) (fun c21 _ => ny - (intOf c21).toNat)
      case atStart => exact ⟨0, Nat.zero_le _, rfl, 0, rfl⟩
      case round =>
        obtain ⟨j, hjn, rfl, m7, rfl⟩ := hrel
        obtain ⟨W7, HW7⟩ : ∃ W7, Hid (Wi.drewN m7 = W7) := ⟨_, rfl⟩
        have HS7 : Hid (HSt w (Wi.drewN m7) f C ⟨size, slide, late, keys⟩ sp' (toldOf sp') sp'.E u8 u9 ls (fun j => OutB (.slice oa ny oc) ys j)) := HSi.out.mono (below_drewN (Below.refl _ Wi) m7) (fun j hj => .inl hj)
        have HW8 : Hid (WinsAt (Wi.drewN m7) (.slice oa ny oc) ys 0) := HWi.out.below (below_drewN (Below.refl _ Wi) m7)
        rw [HW7.out] at HS7 HW8 ⊢
        by_cases hjl : j < ny
        · have hj' : j < ys.length := by rw [Hny.out]; exact hjl
          obtain ⟨y1, y2, y3, y4, y5⟩ := HY.out ys[j] (List.getElem_mem hj')
          obtain ⟨og, oo, rfl⟩ : ∃ g off, oa = some ⟨g, off, none⟩ := by
            obtain ⟨g', off, n, cap, h5, -, -⟩ := HW8.out.row.shape (fun h6 => by have := winFlat_len ys; rw [h6, List.length_nil] at this; omega)
            simp only [Value.slice.injEq] at h5
            exact ⟨g', off, h5.1⟩
          have x1 : W7.cell? ⟨og, oo + j * 7 + 1, none⟩ = some (.int .i64 ys[j].w.start) := HW8.out.cellAt (List.getElem?_eq_getElem hj') 1 (by omega)
          have c0 : W7.cell? ⟨C, 0, none⟩ = some (.int .i64 size) := blkCell HS7.out.cfg rfl
          have hw4 : IntKind.i64.wrap (ys[j].w.start + size) = ys[j].w.start + size := by rw [IntKind.wrap_i64]; omega
          have hwj : IntKind.i64.wrap ((j : Int) + 1) = (j : Int) + 1 := by rw [IntKind.wrap_i64]; omega
          have HMs : Hid (ny - ((j : Int) + 1).toNat < ny - ((j : Int)).toNat) := by show _ < _; omega
          have HJn : Hid (j + 1 ≤ ny) := hjl
          generalize ys[j].w.start = st at *
          rw [y1]
          clear y1 y4 y5 hsum hSb hSb' hwS h12 hwb hwd hwg hwh hk100 hkn hin1 hin2 hk hz1 hz2 hz3 hz4 hl1 hl2 hny hjn hj' hwr heb
          go_upto_region 34 with fail
          go_cut [12, 166] from 132 to 166 (fun s12 s166 wx => s12 = .bool sp.li ∧ s166 = .bool false ∧ ∃ m, wx = W7.drewN m)
          case first =>
            have z1 : ¬ sp'.lt < st + size := by omega
            have z2 : decide (sp'.lt < st + size) = false := decide_eq_false z1
            have z5 : (0 : Int) ≤ (j : Int) := by omega
            have z6 : (j : Int) < (ny : Int) := by omega
            clear hwj y2 hcf hok hC5 hbc
            cases hli : sp.li with
            | true =>
              have y6 : ¬ st + size ≤ sp.lt := by have := y3 hli; omega
              have z3 : decide (st + size ≤ sp.lt) = false := decide_eq_false y6
              have HLi : Hid (sp.li = true) := hli
              clear y3 hli
              go_quiet (fail)
              go_wp2
              go_meet
              exact ⟨by rw [HLi.out], rfl, _, rfl⟩
            | false =>
              have HLi : Hid (sp.li = false) := hli
              clear y3 hli
              go_quiet (fail)
              go_wp2
              go_meet
              exact ⟨by rw [HLi.out], rfl, _, rfl⟩
          case rest =>
            obtain ⟨rfl, rfl, m8, rfl⟩ := hcut
            go_wp2_with fail
            go_roundw
            · exact ⟨j + 1, HJn.out, by go_num, m7 + m8, by rw [← HW7.out]; first | rfl | rw [World.drewN_drewN]⟩
            · exact HMs.out
        · obtain ⟨va, vc, hv9, hsrc⟩ := HW8.out.srcAll
          obtain ⟨lb, lc, hlv⟩ := HS7.out.wins.len
          have HL9 : Hid (u9 = .slice lb ls.length lc) := hlv
          have hrl : Row W7 70 7 (.slice lb ls.length lc) (ls.flatMap wxCells) := by
            have h5 := HS7.out.wins.row
            rw [hlv] at h5
            exact h5
          have hll := HLl.out
          have hl7 := winFlat_len ls
          have Hl7 : Hid ((ls.flatMap wxCells).length = 7 * ls.length) := hl7
          obtain ⟨i, hi, hz0, hz1', hz2'⟩ := info_parts info133
          rw [Hny.out] at hsrc
          simp only [Value.slice.injEq] at hv9
          obtain ⟨rfl, -, rfl⟩ := hv9
          rw [hlv]
          clear hlv hl7
          go_wp2_with (at_builtin; go_must (refine wpList_append_any _ rfl _ _ _ _ rfl 70 i (.agg #[.string ⟨#[]⟩, .int .i64 0, .int .i64 0, .int .i64 0, .int .i64 0, .int .i64 0, .slice none 0 0]) 7 80 Tryz.underlying54 hi hz0 hz1' hz2' rfl (by decide) (.slice lb ls.length lc) (ls.flatMap wxCells) rfl hrl (.slice oa ny oc) ny (ys.flatMap wxCells) rfl hsrc ?h63b ?hbyb ?nextb))
          case h63b => rw [Hl7.out]; simp only [maxLen]; omega
          case hbyb => rw [Hl7.out]; omega
          intro dv W9 ha hn0
          rw [← HL9.out] at ha hn0
          have HS9 : Hid (HSt w W9 f C ⟨size, slide, late, keys⟩ sp' (toldOf sp') sp'.E u8 dv (ls ++ ys) (fun _ => False)) := HS7.out.told HW8.out HOi.out ha (fun h => hn0 (by rw [← Hny.out]; exact h))
          have HSx : Hid (sp'.n.taken + sp'.n.late + sp'.n.full + sp'.n.marks ≤ ((k + 1 : Nat) : Int)) := by
            have h5 := HSs.out
            show _ ≤ _
            rw [HSm'.out]
            split at h5 <;> omega
          obtain ⟨da, dc, hdv⟩ := HS9.out.wins.len
          subst hdv
          have hwk : IntKind.i64.wrap ((k : Int) + 1) = (k : Int) + 1 := by rw [IntKind.wrap_i64]; omega
          clear ha hn0 hrl hsrc hll
          go_wp2_with fail
          go_roundw
          · exact ⟨k + 1, sp', ls ++ ys, by omega, by omega, by go_num, rfl, rfl, by rw [HSm'.out], HSx.out, HHc.out, HDj.out, HS9.out⟩
          · simp [intOf]; omega
    · have hcase : (k < ne ∧ ¬ k < 100) ∨ ¬ k < ne := by omega
      have HEl : Hid (sp.E.length ≤ 100) := by
        have := HHo.out.tk
        have := HHo.out.n0
        show _ ≤ _
        omega
      clear hin hsum
      rcases hcase with ⟨hin1, hin2⟩ | hin1
      all_goals
        go_wp2_with fail
        go_loopw [22] (fun c22 wr => ∃ (n : Nat) (sp2 : Sp), n ≤ 3 ∧ c22 = .int .i64 (n : Int) ∧ HFin ⟨size, slide, late, keys⟩ sp.E sp2 n ∧ (sp.li = true → sp2.li = true ∧ sp.lt ≤ sp2.lt) ∧ HSt w wr f C ⟨size, slide, late, keys⟩ sp2 (toldOf sp) sp.E u8 u9 ls (fun _ => False)) (fun c22 _ => 3 - (intOf c22).toNat)
        · exact ⟨0, sp, by omega, rfl, HHo.out.fin, fun h => ⟨h, Int.le_refl _⟩, HS0.out⟩
        · clear HS0
          obtain ⟨n, sp2, hn3, rfl, hfi, hup, hst⟩ := hrel
          have HFi : Hid (HFin ⟨size, slide, late, keys⟩ sp.E sp2 n) := hfi
          have HUp : Hid (sp.li = true → sp2.li = true ∧ sp.lt ≤ sp2.lt) := hup
          have HS1 : Hid (HSt w wr f C ⟨size, slide, late, keys⟩ sp2 (toldOf sp) sp.E u8 u9 ls (fun _ => False)) := hst
          have hw1 := hst.below.size
          clear hfi hup hst
          by_cases hlt : n < 3
          · have HOp : Hid (Calls Tryz.prog 22 #[.pointer (some ⟨f, 0, none⟩), .int .i64 n] wr fun en w' => ∃ (cd : Int) (sp' : Sp) (s : SrcS), en = .returned (.int .i64 cd) ∧ Solo w.heap.size (fun j => j = C ∨ u8.ownBlock = some j ∨ OutB u9 ls j ∨ False) w' f ⟨size, slide, late, keys⟩ sp' (toldOf sp) ∧ HFin ⟨size, slide, late, keys⟩ sp.E sp' n ∧ (sp'.src[n]? = some s ∧ s.opened = true) ∧ (sp2.li = true → sp'.li = true ∧ sp2.lt ≤ sp'.lt) ∧ Kept (fun j => w.heap.size ≤ j ∧ ¬ (j = C ∨ u8.ownBlock = some j ∨ OutB u9 ls j ∨ False)) wr w') := HS1.out.solo.finOpen n HS1.out.lt hw1 hlt HFi.out
            have hwn : IntKind.i64.wrap ((n : Int) + 1) = (n : Int) + 1 := by rw [IntKind.wrap_i64]; omega
            go_wp2_with fail
            refine HOp.out.mono ?_
            rintro e Wp ⟨cd, sp3, s, rfl, hs3, hf3, hop, hup3, hk3⟩
            have HS2 : Hid (HSt w Wp f C ⟨size, slide, late, keys⟩ sp3 (toldOf sp) sp.E u8 u9 ls (fun _ => False)) := (HS1.out.after hs3 hk3).1
            have HF3 : Hid (HFin ⟨size, slide, late, keys⟩ sp.E sp3 n) := hf3
            have HO3 : Hid (sp3.src[n]? = some s ∧ s.opened = true) := hop
            have HU3 : Hid (sp.li = true → sp3.li = true ∧ sp.lt ≤ sp3.lt) := fun h => ⟨(hup3 (HUp.out h).1).1, by have := (hup3 (HUp.out h).1).2; have := (HUp.out h).2; omega⟩
            clear hs3 hf3 hop hup3 hk3 HOp HS1
            go_wp2_with fail
            refine (mark_any 100000 Wp).mono ?_
            rintro e Wq ⟨bv, rfl, hrb, hgb, hbb⟩
            have HS3 : Hid (HSt w Wq f C ⟨size, slide, late, keys⟩ sp3 (toldOf sp) sp.E u8 u9 ls (fun _ => False)) := HS2.out.mono hbb (fun j hj => .inl hj)
            have hw3 := HS3.out.below.size
            have HMk : Hid (Calls Tryz.prog 20 #[.pointer (some ⟨f, 0, none⟩), .int .i64 n, bv] Wq fun en w' => en = .returned (.int .i64 0) ∧ ∃ sp' : Sp, Solo w.heap.size (fun j => j = C ∨ u8.ownBlock = some j ∨ OutB u9 ls j ∨ False) w' f ⟨size, slide, late, keys⟩ sp' (toldOf sp) ∧ HFin ⟨size, slide, late, keys⟩ sp.E sp' (n + 1) ∧ (sp3.li = true → sp'.li = true ∧ sp3.lt ≤ sp'.lt) ∧ Kept (fun j => w.heap.size ≤ j ∧ ¬ (j = C ∨ u8.ownBlock = some j ∨ OutB u9 ls j ∨ False)) Wq w') := HS3.out.solo.finMark n bv s HS3.out.lt hw3 hlt HF3.out hl1 (Nat.le_trans HEl.out (by omega)) HO3.out hrb
            clear hrb hgb hbb HS2
            go_wp2_with fail
            refine HMk.out.mono ?_
            rintro e Wr ⟨rfl, sp4, hs4, hf4, hup4, hk4⟩
            have HS4 : Hid (HSt w Wr f C ⟨size, slide, late, keys⟩ sp4 (toldOf sp) sp.E u8 u9 ls (fun _ => False)) := (HS3.out.after hs4 hk4).1
            have HF4 : Hid (HFin ⟨size, slide, late, keys⟩ sp.E sp4 (n + 1)) := hf4
            have HU4 : Hid (sp.li = true → sp4.li = true ∧ sp.lt ≤ sp4.lt) := fun h => ⟨(hup4 (HU3.out h).1).1, by have := (hup4 (HU3.out h).1).2; have := (HU3.out h).2; omega⟩
            clear hs4 hf4 hup4 hk4 HMk HS3
            go_wp2_with fail
            go_roundw
            · exact ⟨n + 1, sp4, by omega, by go_num, HF4.out, HU4.out, HS4.out⟩
            · simp [intOf]; omega
          · have hn9 : n = 3 := by omega
            have hfl : sp2.li = true ∧ 100000 - late ≤ sp2.lt := by
              have h5 := HFi.out
              rw [hn9] at h5
              exact h5.line
            have HFl : Hid (sp2.li = true ∧ 100000 - late ≤ sp2.lt) := hfl
            have HTk : Hid (Calls Tryz.prog 25 #[.pointer (some ⟨f, 0, none⟩)] wr fun e w' => ∃ ov ys, e = .returned ov ∧ WinsAt w' ov ys 0 ∧ DoneOk size slide (toldOf sp) sp2.lt sp2.li sp2.E (ys.map WinX.w) ∧ (∀ k, OutB ov ys k → wr.heap.size ≤ k ∧ k < w'.heap.size) ∧ Solo w.heap.size (fun j => (j = C ∨ u8.ownBlock = some j ∨ OutB u9 ls j ∨ False) ∨ OutB ov ys j) w' f ⟨size, slide, late, keys⟩ sp2 (tookT sp2 (toldOf sp)) ∧ Kept (fun j => w.heap.size ≤ j ∧ ¬ (j = C ∨ u8.ownBlock = some j ∨ OutB u9 ls j ∨ False)) wr w') :=
              HS1.out.solo.take HRis HSrt HS1.out.lt hw1 HFi.out.rst.li (by rw [HFi.out.E]; exact Nat.le_trans HEl.out (by omega)) hok.a6 HFi.out.rst.lt
            clear hfl hn9
            go_wp2_with fail
            refine HTk.out.mono ?_
            rintro e Wi ⟨ov, ys, rfl, hwi, hdi, hoi, hsi, hki⟩
            have HSi : Hid (HSt w Wi f C ⟨size, slide, late, keys⟩ sp2 (tookT sp2 (toldOf sp)) sp.E u8 u9 ls (fun j => OutB ov ys j)) := HS1.out.taken hoi hsi hki
            have HWi : Hid (WinsAt Wi ov ys 0) := hwi
            have HOi : Hid (∀ j, OutB ov ys j → w.heap.size ≤ j) := fun j hj => by have := (hoi j hj).1; omega
            have HDj : Hid (DoneOk size slide none sp2.lt true sp.E ((ls ++ ys).map WinX.w)) := by
              show DoneOk _ _ _ _ _ _ _
              rw [List.map_append]
              rw [HFi.out.E, HFl.out.1] at hdi
              exact HDn.out.join hdi (fun h => ⟨rfl, (HUp.out h).2⟩)
            have HAl : Hid (AllW size slide sp.E ((ls ++ ys).map WinX.w)) := HDj.out.allN (fun e he => by have := HHo.out.E e he; have := HFl.out.2; omega)
            have HLl : Hid (ls.length ≤ 200000 ∧ ys.length ≤ 200000) := by
              have h5 := HDj.out.fewW
              rw [List.length_map, List.length_append] at h5
              have h6 : sp.E.length * size.toNat ≤ 100 * 820 := Nat.mul_le_mul HEl.out (by omega)
              show _ ∧ _
              omega
            obtain ⟨oa, oc, hov⟩ := hwi.len
            obtain ⟨ny, Hny⟩ : ∃ n, Hid (ys.length = n) := ⟨_, rfl⟩
            rw [Hny.out] at hov
            subst hov
            clear hwi hdi hoi hsi hki HTk HS1
            obtain ⟨va, vc, hv9, hsrc⟩ := HWi.out.srcAll
            obtain ⟨lb, lc, hlv⟩ := HSi.out.wins.len
            have HL9 : Hid (u9 = .slice lb ls.length lc) := hlv
            have hrl : Row Wi 70 7 (.slice lb ls.length lc) (ls.flatMap wxCells) := by
              have h5 := HSi.out.wins.row
              rw [hlv] at h5
              exact h5
            have hll := HLl.out
            rw [Hny.out] at hll hsrc
            have Hl7 : Hid ((ls.flatMap wxCells).length = 7 * ls.length) := winFlat_len ls
            obtain ⟨i, hi, hz0, hz1', hz2'⟩ := info_parts info133
            simp only [Value.slice.injEq] at hv9
            obtain ⟨rfl, -, rfl⟩ := hv9
            rw [hlv]
            clear hlv
            go_wp2_with (at_builtin; go_must (refine wpList_append_any _ rfl _ _ _ _ rfl 70 i (.agg #[.string ⟨#[]⟩, .int .i64 0, .int .i64 0, .int .i64 0, .int .i64 0, .int .i64 0, .slice none 0 0]) 7 80 Tryz.underlying54 hi hz0 hz1' hz2' rfl (by decide) (.slice lb ls.length lc) (ls.flatMap wxCells) rfl hrl (.slice oa ny oc) ny (ys.flatMap wxCells) rfl hsrc ?_ ?_ ?_))
            · rw [Hl7.out]; simp only [maxLen]; omega
            · rw [Hl7.out]; omega
            intro dv W9 ha hn0
            rw [← HL9.out] at ha hn0
            have HS9 : Hid (HSt w W9 f C ⟨size, slide, late, keys⟩ sp2 (tookT sp2 (toldOf sp)) sp.E u8 dv (ls ++ ys) (fun _ => False)) := HSi.out.told HWi.out HOi.out ha (fun h => hn0 (by rw [← Hny.out]; exact h))
            have HTo : Hid (Calls Tryz.prog 26 #[dv, u8, .agg #[.int .i64 size, .int .i64 slide, .int .i64 late, .int .i64 keys]] W9 fun e w' => e = .returned (.bool true) ∧ Below W9.heap.size W9 w') :=
              ktold_any dv u8 (ls ++ ys) sp.E size slide late keys W9 HS9.out.wins HS9.out.row HAl.out (fun e he => (HHo.out.E e he).2.2) (fun e he => ⟨(HHo.out.E e he).1, (HHo.out.E e he).2.1⟩) hz3 hz4 (by omega) (by omega) (Nat.le_trans HEl.out (by omega))
            have c0 : W9.cell? ⟨C, 0, none⟩ = some (.int .i64 size) := blkCell HS9.out.cfg rfl
            have c1 : W9.cell? ⟨C, 1, none⟩ = some (.int .i64 slide) := blkCell HS9.out.cfg rfl
            have c2 : W9.cell? ⟨C, 2, none⟩ = some (.int .i64 late) := blkCell HS9.out.cfg rfl
            have c3 : W9.cell? ⟨C, 3, none⟩ = some (.int .i64 keys) := blkCell HS9.out.cfg rfl
            clear ha hn0 hrl hsrc hll
            go_wp2_with fail
            refine HTo.out.mono ?_
            rintro e Wz ⟨rfl, hbz⟩
            have HBz : Hid (Below w.heap.size w Wz) := HS9.out.below.trans (hbz.mono HS9.out.below.size)
            clear hbz HTo c0 c1 c2 c3
            go_wp2_with fail
            go_ret
            exact ⟨rfl, HBz.out⟩
end Go.Proofs.YtcfngdnmpogaoaaGreat
