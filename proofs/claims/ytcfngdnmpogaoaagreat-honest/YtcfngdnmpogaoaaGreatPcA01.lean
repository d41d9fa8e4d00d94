import Derived.Test.YtcfngdnmpogaoaaGreatPcS01
namespace Go.Proofs.YtcfngdnmpogaoaaGreat
open Go.RowKit Go.MuLone

/-- A number of 64 bits. -/
def i64B (x : Int) : Prop := -9223372036854775808 ≤ x ∧ x ≤ 9223372036854775807
/-- A configuration that 'config' makes. -/
structure CfgOk (size slide late keys : Int) : Prop where
  b1 : 1 ≤ slide
  b2 : slide ≤ 20
  b3 : slide ≤ size
  b4 : size < 41 * slide
  b5 : 0 ≤ late
  b6 : late < 30
  b7 : 1 ≤ keys
  b8 : keys ≤ 16

set_option maxRecDepth 20000 in
set_option maxHeartbeats 1600000 in
theorem config_any (a b c d : Int) (w : World) (ha : i64B a) (hb : i64B b) (hc : i64B c) (hd : i64B d) :
    Calls Tryz.prog 18 #[.agg #[.int .i64 a, .int .i64 b, .int .i64 c, .int .i64 d]] w fun e w' => ∃ size slide late keys, e = .returned (confV size slide late keys) ∧ CfgOk size slide late keys ∧ Below w.heap.size w w' := by
  have q1 := fun W => pick_any b 20 W hb.1 hb.2 (by omega) (by omega)
  have e1 := pickZ_lt b 20 (by omega)
  obtain ⟨P1, HP1⟩ : ∃ P, Hid (pickZ b 20 = P) := ⟨_, rfl⟩
  rw [HP1.out] at e1 q1
  obtain ⟨SL, hSL, HSL⟩ : ∃ SL : Int, 1 + P1 = SL ∧ Hid (1 + P1 = SL) := ⟨_, rfl, rfl⟩
  have hs1 : 1 ≤ SL ∧ SL ≤ 20 := by omega
  obtain ⟨M, hM, HM⟩ : ∃ M : Int, 40 * SL = M ∧ Hid (40 * SL = M) := ⟨_, rfl, rfl⟩
  have hm1 : 40 ≤ M ∧ M ≤ 800 := by omega
  have q2 := fun W => pick_any a M W ha.1 ha.2 (by omega) (by omega)
  have e2 := pickZ_lt a M (by omega)
  obtain ⟨P2, HP2⟩ : ∃ P, Hid (pickZ a M = P) := ⟨_, rfl⟩
  rw [HP2.out] at e2 q2
  have q3 := fun W => pick_any c 30 W hc.1 hc.2 (by omega) (by omega)
  have e3 := pickZ_lt c 30 (by omega)
  obtain ⟨P3, HP3⟩ : ∃ P, Hid (pickZ c 30 = P) := ⟨_, rfl⟩
  rw [HP3.out] at e3 q3
  have q4 := fun W => pick_any d 16 W hd.1 hd.2 (by omega) (by omega)
  have e4 := pickZ_lt d 16 (by omega)
  obtain ⟨P4, HP4⟩ : ∃ P, Hid (pickZ d 16 = P) := ⟨_, rfl⟩
  rw [HP4.out] at e4 q4
  have HF : Hid (CfgOk (SL + P2) SL P3 (1 + P4)) := ⟨by omega, by omega, by omega, by omega, by omega, by omega, by omega, by omega⟩
  go_enter Tryz.func18, Tryz.ntmps18
  go_wp2_with fail
  refine (q1 _).mono ?_
  rintro e W ⟨rfl, rfl⟩
  go_wp2_with fail
  refine (q2 _).mono ?_
  rintro e W ⟨rfl, rfl⟩
  go_wp2_with fail
  refine wp_region_still_tail 10 (by kernel_rfl) (by kernel_rfl) ?_
  simp only [List.take_succ_cons, List.take_zero, List.drop_succ_cons, List.drop_zero]
  obtain ⟨hA, hB⟩ := two_new w (.cells #[.int .i64 a, .int .i64 b, .int .i64 c, .int .i64 d] 39) (.cells #[.int .i64 0, .int .i64 0, .int .i64 0, .int .i64 0] 42)
  have HB1 : Hid (Below w.heap.size w ((w.alloc (.cells #[.int .i64 a, .int .i64 b, .int .i64 c, .int .i64 d] 39)).alloc (.cells #[.int .i64 0, .int .i64 0, .int .i64 0, .int .i64 0] 42))) := ((Below.refl _ w).alloc (Nat.le_refl _) _).alloc (by simp) _
  generalize (w.alloc (.cells #[.int .i64 a, .int .i64 b, .int .i64 c, .int .i64 d] 39)).alloc (.cells #[.int .i64 0, .int .i64 0, .int .i64 0, .int .i64 0] 42) = W1 at *
  change wpStill Tryz.prog _ W1.drew (fun a' => wpList Tryz.prog _ _ _ a' W1.drew) _ _
  have hA : W1.drew.heap[w.heap.size]? = some (.cells #[.int .i64 a, .int .i64 b, .int .i64 c, .int .i64 d] 39 (0, 0)) := hA
  have hB : W1.drew.heap[w.heap.size + 1]? = some (.cells #[.int .i64 0, .int .i64 0, .int .i64 0, .int .i64 0] 42 (0, 0)) := hB
  have HB2 : Hid (Below w.heap.size w W1.drew) := HB1.out.drew
  generalize W1.drew = W2 at *
  obtain ⟨-, -, a2, a3, -, -⟩ := hold_cells hA
  obtain ⟨b0, b1, b2, b3, bf, -⟩ := hold_cells hB
  repeat still_step
  still_call (q3 _)
  repeat still_step
  still_call (q4 _)
  repeat still_step
  refine wpStill_nil ?_
  go_wp2_with fail
  have h4 := blkPut (blkPut (blkPut (blkPut hB 0 (.int .i64 (SL + P2))) 1 (.int .i64 SL)) 2 (.int .i64 P3)) 3 (.int .i64 (1 + P4))
  have HB3 : Hid (Below w.heap.size w ((((W2.setCell ⟨w.heap.size + 1, 0, none⟩ (.int .i64 (SL + P2))).setCell ⟨w.heap.size + 1, 1, none⟩ (.int .i64 SL)).setCell ⟨w.heap.size + 1, 2, none⟩ (.int .i64 P3)).setCell ⟨w.heap.size + 1, 3, none⟩ (.int .i64 (1 + P4)))) := (((HB2.out.setCell (p := ⟨w.heap.size + 1, 0, none⟩) (by simp) _).setCell (p := ⟨w.heap.size + 1, 1, none⟩) (by simp) _).setCell (p := ⟨w.heap.size + 1, 2, none⟩) (by simp) _).setCell (p := ⟨w.heap.size + 1, 3, none⟩) (by simp) _
  generalize (((W2.setCell ⟨w.heap.size + 1, 0, none⟩ (.int .i64 (SL + P2))).setCell ⟨w.heap.size + 1, 1, none⟩ (.int .i64 SL)).setCell ⟨w.heap.size + 1, 2, none⟩ (.int .i64 P3)).setCell ⟨w.heap.size + 1, 3, none⟩ (.int .i64 (1 + P4)) = W3 at *
  obtain ⟨y0, y1, y2, y3, -, -⟩ := hold_cells (x0 := .int .i64 (SL + P2)) (x1 := .int .i64 SL) (x2 := .int .i64 P3) (x3 := .int .i64 (1 + P4)) h4
  exact bodyPost_ret (v := confV (SL + P2) SL P3 (1 + P4)) (by simp [results, Tryz.results18, go_sem, y0, y1, y2, y3]) rfl ⟨_, _, _, _, rfl, HF.out, HB3.out⟩

/-- The five keys. -/
def keys5 : List ByteArray := [⟨#[97]⟩, ⟨#[98]⟩, ⟨#[97, 98]⟩, ⟨#[0]⟩, ⟨#[108, 111, 110, 103, 110, 97, 109, 101]⟩]
/-- The event of raw numbers. -/
def evRaw (k t v : Int) (tag : Nat) : Ev := ⟨(keys5[(pickZ k 5).toNat]?).getD ⟨#[97]⟩, pickZ t 1000 - 500, v, tag⟩
def evItemV (e : Ev) : Value := .agg #[.int .i64 1, .string e.key, .int .i64 e.t, .int .i64 e.v, .int .u32 (e.tag : Int)]

set_option maxRecDepth 20000 in
set_option maxHeartbeats 1600000 in
theorem item_any (k t v : Int) (tag : Nat) (w : World) (hk : i64B k) (ht : i64B t) :
    Calls Tryz.prog 23 #[.agg #[.int .i64 k, .int .i64 t, .int .i64 v, .int .u32 (tag : Int)]] w fun e w' => e = .returned (evItemV (evRaw k t v tag)) ∧ Below w.heap.size w w' := by
  have q1 := fun W => pick_any k 5 W hk.1 hk.2 (by omega) (by omega)
  have e1 := pickZ_lt k 5 (by omega)
  obtain ⟨K, hK⟩ : ∃ K : Nat, pickZ k 5 = (K : Int) := ⟨(pickZ k 5).toNat, by omega⟩
  have q2 := fun W => pick_any t 1000 W ht.1 ht.2 (by omega) (by omega)
  have e2 := pickZ_lt t 1000 (by omega)
  obtain ⟨P2, HP2⟩ : ∃ P, Hid (pickZ t 1000 = P) := ⟨_, rfl⟩
  have HE : Hid (evItemV (evRaw k t v tag) = .agg #[.int .i64 1, .string ((keys5[K]?).getD ⟨#[97]⟩), .int .i64 (P2 - 500), .int .i64 v, .int .u32 (tag : Int)]) := by
    show _ = _
    unfold evItemV evRaw
    rw [hK, HP2.out]; rfl
  rw [HE.out]
  rw [HP2.out] at e2 q2
  rw [hK] at e1 q1
  have hK5 : K < 5 := by omega
  obtain ⟨KEY, HKEY⟩ : ∃ KEY, Hid ((keys5[K]?).getD ⟨#[97]⟩ = KEY) := ⟨_, rfl⟩
  rw [HKEY.out]
  go_enter Tryz.func23, Tryz.ntmps23
  go_wp2_with fail
  have hall : ∀ o1 o2 o3 : Obj, (((w.alloc o1).alloc o2).alloc o3).heap[w.heap.size]? = some o1 ∧ (((w.alloc o1).alloc o2).alloc o3).heap[w.heap.size + 1]? = some o2 ∧ (((w.alloc o1).alloc o2).alloc o3).heap[w.heap.size + 1 + 1]? = some o3 ∧ Below w.heap.size w (((w.alloc o1).alloc o2).alloc o3) := fun o1 o2 o3 => by
    obtain ⟨h1, h2⟩ := two_new w o1 o2
    have hs : ((w.alloc o1).alloc o2).heap.size = w.heap.size + 1 + 1 := by simp
    refine ⟨?_, ?_, ?_, (((Below.refl _ w).alloc (Nat.le_refl _) _).alloc (by simp) _).alloc (by simp; omega) _⟩
    · rw [Below.heap_alloc _ _ _ (by rw [hs]; omega)]; exact h1
    · rw [Below.heap_alloc _ _ _ (by rw [hs]; omega)]; exact h2
    · rw [← hs]; exact heap_alloc_new _ _
  obtain ⟨hA, hB, hC, hBe⟩ := hall (.cells #[.int .i64 k, .int .i64 t, .int .i64 v, .int .u32 (tag : Int)] 51) (.cells #[.int .i64 0, .string ⟨#[]⟩, .int .i64 0, .int .i64 0, .int .u32 0] 28) (.cells #[.string ⟨#[97]⟩, .string ⟨#[98]⟩, .string ⟨#[97, 98]⟩, .string ⟨#[0]⟩, .string ⟨#[108, 111, 110, 103, 110, 97, 109, 101]⟩] 122)
  have HBe : Hid (Below w.heap.size w (((w.alloc (.cells #[.int .i64 k, .int .i64 t, .int .i64 v, .int .u32 (tag : Int)] 51)).alloc (.cells #[.int .i64 0, .string ⟨#[]⟩, .int .i64 0, .int .i64 0, .int .u32 0] 28)).alloc (.cells #[.string ⟨#[97]⟩, .string ⟨#[98]⟩, .string ⟨#[97, 98]⟩, .string ⟨#[0]⟩, .string ⟨#[108, 111, 110, 103, 110, 97, 109, 101]⟩] 122))) := hBe
  clear hall hBe
  refine wp_region_still_tail 14 (by kernel_rfl) (by kernel_rfl) ?_
  simp only [List.take_succ_cons, List.take_zero, List.drop_succ_cons, List.drop_zero]
  generalize ((w.alloc (.cells #[.int .i64 k, .int .i64 t, .int .i64 v, .int .u32 (tag : Int)] 51)).alloc (.cells #[.int .i64 0, .string ⟨#[]⟩, .int .i64 0, .int .i64 0, .int .u32 0] 28)).alloc (.cells #[.string ⟨#[97]⟩, .string ⟨#[98]⟩, .string ⟨#[97, 98]⟩, .string ⟨#[0]⟩, .string ⟨#[108, 111, 110, 103, 110, 97, 109, 101]⟩] 122) = W1 at *
  change wpStill Tryz.prog _ W1.drew (fun a' => wpList Tryz.prog _ _ _ a' W1.drew) _ _
  have hA : W1.drew.heap[w.heap.size]? = some (.cells #[.int .i64 k, .int .i64 t, .int .i64 v, .int .u32 (tag : Int)] 51 (0, 0)) := hA
  have hB : W1.drew.heap[w.heap.size + 1]? = some (.cells #[.int .i64 0, .string ⟨#[]⟩, .int .i64 0, .int .i64 0, .int .u32 0] 28 (0, 0)) := hB
  have hC : W1.drew.heap[w.heap.size + 1 + 1]? = some (.cells #[.string ⟨#[97]⟩, .string ⟨#[98]⟩, .string ⟨#[97, 98]⟩, .string ⟨#[0]⟩, .string ⟨#[108, 111, 110, 103, 110, 97, 109, 101]⟩] 122 (0, 0)) := hC
  have HB2 : Hid (Below w.heap.size w W1.drew) := HBe.out.drew
  generalize W1.drew = W2 at *
  have hck : W2.cell? ⟨w.heap.size + 1 + 1, K, none⟩ = some (.string KEY) := by
    rw [cell_of_row _ _ _ _ _ _ hC, ← HKEY.out]
    match K, hK5 with
    | 0, _ => rfl
    | 1, _ => rfl
    | 2, _ => rfl
    | 3, _ => rfl
    | 4, _ => rfl
  obtain ⟨a0, a1, a2, a3, -, -⟩ := hold_cells hA
  obtain ⟨b0, b1, b2, b3, b4⟩ := itemAt hB
  have bf := blkFrozen hB
  repeat still_step
  still_call (q1 _)
  repeat still_step
  still_call (q2 _)
  repeat still_step
  refine wpStill_nil ?_
  go_wp2_with fail
  have h4 := blkPut (blkPut (blkPut (blkPut (blkPut hB 0 (.int .i64 1)) 1 (.string KEY)) 2 (.int .i64 (P2 - 500))) 3 (.int .i64 v)) 4 (.int .u32 (tag : Int))
  have kf : ∀ (W : World) (o : Nat) (u : Value), Below w.heap.size w W → Below w.heap.size w (W.setCell ⟨w.heap.size + 1, o, none⟩ u) := fun W o u h => h.setCell (p := ⟨w.heap.size + 1, o, none⟩) (by simp) u
  have HB3 : Hid (Below w.heap.size w (((((W2.setCell ⟨w.heap.size + 1, 0, none⟩ (.int .i64 1)).setCell ⟨w.heap.size + 1, 1, none⟩ (.string KEY)).setCell ⟨w.heap.size + 1, 2, none⟩ (.int .i64 (P2 - 500))).setCell ⟨w.heap.size + 1, 3, none⟩ (.int .i64 v)).setCell ⟨w.heap.size + 1, 4, none⟩ (.int .u32 (tag : Int)))) := kf _ _ _ (kf _ _ _ (kf _ _ _ (kf _ _ _ (kf _ _ _ HB2.out))))
  generalize ((((W2.setCell ⟨w.heap.size + 1, 0, none⟩ (.int .i64 1)).setCell ⟨w.heap.size + 1, 1, none⟩ (.string KEY)).setCell ⟨w.heap.size + 1, 2, none⟩ (.int .i64 (P2 - 500))).setCell ⟨w.heap.size + 1, 3, none⟩ (.int .i64 v)).setCell ⟨w.heap.size + 1, 4, none⟩ (.int .u32 (tag : Int)) = W3 at *
  obtain ⟨y0, y1, y2, y3, y4⟩ := itemAt (show W3.heap[w.heap.size + 1]? = some (.cells #[.int .i64 1, .string KEY, .int .i64 (P2 - 500), .int .i64 v, .int .u32 (tag : Int)] 28 (0, 0)) from h4)
  exact bodyPost_ret (v := .agg #[.int .i64 1, .string KEY, .int .i64 (P2 - 500), .int .i64 v, .int .u32 (tag : Int)]) (by simp [results, Tryz.results23, go_sem, y0, y1, y2, y3, y4]) rfl ⟨rfl, HB3.out⟩
end Go.Proofs.YtcfngdnmpogaoaaGreat
namespace Go.Proofs.YtcfngdnmpogaoaaGreat
open Go.RowKit Go.MuLone

theorem CfgOk.conf {size slide late keys : Int} (h : CfgOk size slide late keys) : isConf size slide late keys := by
  obtain ⟨b1, b2, b3, b4, b5, b6, b7, b8⟩ := h
  have hg : 1 ≤ (Nat.gcd size.toNat slide.toNat : Nat) := Nat.gcd_pos_of_pos_left _ (by omega)
  have : size / (Nat.gcd size.toNat slide.toNat : Nat) ≤ size := Int.ediv_le_self _ (by omega)
  exact ⟨b1, b3, by omega, by omega, b5, by omega, b7, b8⟩
theorem CfgOk.ok {size slide late keys : Int} (h : CfgOk size slide late keys) : CfOk ⟨size, slide, late, keys⟩ := by
  obtain ⟨b1, b2, b3, b4, b5, b6, b7, b8⟩ := h
  exact ⟨b1, b3, by show size ≤ _; omega, b5, by show late ≤ _; omega, by show size ≤ 4096 * slide; omega⟩

set_option maxHeartbeats 1600000 in
theorem flow_on (size slide late keys : Int) (w : World) (hc : isConf size slide late keys) :
    Calls Tryz.prog 19 #[confV size slide late keys] w fun e w' => ∃ g, w.heap.size ≤ g ∧ e = .returned (.pointer (some ⟨g, 0, none⟩)) ∧ FlowOn w' g ⟨size, slide, late, keys⟩ (Sp.new.open 0) (List.replicate 8 []) (fun k => w.heap.size ≤ k) none ∧ Below w.heap.size w w' := by
  have HC : Hid (isConf size slide late keys) := hc
  clear hc
  go_enter Tryz.func19, Tryz.ntmps19
  go_wp2_with fail
  refine (new_on size slide late keys _ HC.out).mono ?_
  rintro e W ⟨g, hg, rfl, hsf, hb⟩
  have hgw : w.heap.size ≤ g := by simp at hg; omega
  have HS : Hid (FlowOn W g ⟨size, slide, late, keys⟩ Sp.new (List.replicate 8 []) (fun k => w.heap.size ≤ k) none) := hsf.mono (fun k hk => by rw [hk]; exact hgw)
  have HB : Hid (Below w.heap.size w W) := ((Below.refl _ w).alloc (Nat.le_refl _) _).trans (hb.mono (by simp))
  clear hsf hb hg
  have hO := open_on g 0 ⟨size, slide, late, keys⟩ Sp.new (List.replicate 8 []) (fun k => w.heap.size ≤ k) none ⟨false, false, 0, false⟩ W HS.out rfl rfl
  have HO : Hid (Calls Tryz.prog 22 #[.pointer (some ⟨g, 0, none⟩), .int .i64 0] W fun e w' => e = .returned (.int .i64 0) ∧ FlowOn w' g ⟨size, slide, late, keys⟩ (Sp.new.open 0) (List.replicate 8 []) (fun k => w.heap.size ≤ k) none ∧ Kept (fun k => w.heap.size ≤ k) W w') := hO
  clear hO
  go_wp2_with fail
  refine HO.out.mono ?_
  rintro e W2 ⟨rfl, h2, k2⟩
  have H2 : Hid (FlowOn W2 g ⟨size, slide, late, keys⟩ (Sp.new.open 0) (List.replicate 8 []) (fun k => w.heap.size ≤ k) none) := h2
  have HB2 : Hid (Below w.heap.size w W2) := HB.out.trans (k2.toBelow HB.out.size (fun k hk e => by omega))
  clear h2 k2 HO
  go_wp2
  go_ret
  exact ⟨g, hgw, rfl, H2.out, HB2.out⟩

set_option maxRecDepth 20000 in
set_option maxHeartbeats 1600000 in
theorem sameTags_any (ts : List Nat) (va vb : Value) (w : World) (ha : Row w 26 1 va (ts.map tagV)) (hb : Row w 26 1 vb (ts.map tagV)) (hl : ts.length ≤ 9223372036854775807) :
    Calls Tryz.prog 63 #[va, vb] w fun e w' => e = .returned (.bool true) ∧ Below w.heap.size w w' := by
  obtain ⟨aa, ca, hva, -⟩ := ha.len (by decide)
  obtain ⟨ab, cb, hvb, -⟩ := hb.len (by decide)
  rw [List.length_map, Nat.div_one] at hva hvb
  subst hva
  subst hvb
  have HA : Hid (Row w 26 1 (.slice aa ts.length ca) (ts.map tagV)) := ha
  have HB : Hid (Row w 26 1 (.slice ab ts.length cb) (ts.map tagV)) := hb
  obtain ⟨n, hn⟩ : ∃ n, ts.length = n := ⟨_, rfl⟩
  have Hn : Hid (ts.length = n) := hn
  rw [hn] at HA HB hl ⊢
  clear ha hb hn
  have hnn : ((n : Int) == (n : Int)) = true := by simp
  go_enter Tryz.func63, Tryz.ntmps63
  go_wp2_with fail
  go_loopw [5] (fun i wr => ∃ k : Nat, k ≤ n ∧ i = .int .i64 (k : Int) ∧ Below w.heap.size w wr) (fun i _ => n - (intOf i).toNat)
  case atStart => exact ⟨0, Nat.zero_le _, rfl, Below.refl _ _⟩
  case round =>
    obtain ⟨k, hk, rfl, hbw⟩ := hrel
    have Hbw : Hid (Below w.heap.size w wr) := hbw
    clear hbw
    by_cases hkn : k < n
    · obtain ⟨ga, oa, rfl⟩ := slice_some HA.out (by omega)
      obtain ⟨gb, ob, rfl⟩ := slice_some HB.out (by omega)
      have ca1 := HA.out.at Hbw.out k (by omega)
      have cb1 := HB.out.at Hbw.out k (by omega)
      obtain ⟨t, ht⟩ : ∃ t : Nat, (ts.map tagV)[k]? = some (.int .u32 (t : Int)) := by
        rw [List.getElem?_map, List.getElem?_eq_getElem (by rw [Hn.out]; exact hkn)]
        exact ⟨_, rfl⟩
      rw [ht] at ca1 cb1
      clear ht
      go_wp2
      go_quiet (fail)
      go_wp2
      go_roundw
      case rel => exact ⟨k + 1, by omega, by go_num, below_drewN Hbw.out nq⟩
      case measure => simp [intOf]; omega
    · go_wp2
      go_ret
      exact ⟨rfl, Hbw.out⟩

set_option maxRecDepth 20000 in
set_option maxHeartbeats 3200000 in
theorem sameK_any (x : Win) (va vb : Value) (w : World) (ha : Row w 26 1 va (x.tags.map tagV)) (hb : Row w 26 1 vb (x.tags.map tagV)) (hl : x.tags.length ≤ 9223372036854775807) :
    Calls Tryz.prog 34 #[.agg (wdC x.key x.start x.cnt x.sum x.lo x.hi va), .agg (wdC x.key x.start x.cnt x.sum x.lo x.hi vb)] w fun e w' => e = .returned (.bool true) ∧ Below w.heap.size w w' := by
  obtain ⟨aa, na, ca, rfl⟩ := row_slice ha
  obtain ⟨ab, nb, cb, rfl⟩ := row_slice hb
  obtain ⟨key, start, cnt, sum, lo, hi, ts⟩ := x
  simp only at *
  obtain ⟨hA, hB⟩ := two_new w (.cells (wdC key start cnt sum lo hi (.slice aa na ca)) 70) (.cells (wdC key start cnt sum lo hi (.slice ab nb cb)) 70)
  have B1 : Below w.heap.size w ((w.alloc (.cells (wdC key start cnt sum lo hi (.slice aa na ca)) 70)).alloc (.cells (wdC key start cnt sum lo hi (.slice ab nb cb)) 70)) := ((Below.refl _ w).alloc (Nat.le_refl _) _).alloc (by simp) _
  have HT := sameTags_any ts (.slice aa na ca) (.slice ab nb cb) _ (ha.below B1 (fun k hk => (ha.blk_lt hk).1)) (hb.below B1 (fun k hk => (hb.blk_lt hk).1)) hl
  have HB1 : Hid (Below w.heap.size w ((w.alloc (.cells (wdC key start cnt sum lo hi (.slice aa na ca)) 70)).alloc (.cells (wdC key start cnt sum lo hi (.slice ab nb cb)) 70))) := B1
  have HTT : Hid (Calls Tryz.prog 63 #[.slice aa na ca, .slice ab nb cb] ((w.alloc (.cells (wdC key start cnt sum lo hi (.slice aa na ca)) 70)).alloc (.cells (wdC key start cnt sum lo hi (.slice ab nb cb)) 70)) fun e w' => e = .returned (.bool true) ∧ Below ((w.alloc (.cells (wdC key start cnt sum lo hi (.slice aa na ca)) 70)).alloc (.cells (wdC key start cnt sum lo hi (.slice ab nb cb)) 70)).heap.size ((w.alloc (.cells (wdC key start cnt sum lo hi (.slice aa na ca)) 70)).alloc (.cells (wdC key start cnt sum lo hi (.slice ab nb cb)) 70)) w') := HT
  clear HT B1 ha hb
  simp only [wdC] at *
  go_enter Tryz.func34, Tryz.ntmps34
  go_upto_region 1 with fail
  generalize (w.alloc (.cells #[.string key, .int .i64 start, .int .i64 cnt, .int .i64 sum, .int .i64 lo, .int .i64 hi, .slice aa na ca] 70)).alloc (.cells #[.string key, .int .i64 start, .int .i64 cnt, .int .i64 sum, .int .i64 lo, .int .i64 hi, .slice ab nb cb] 70) = W1 at *
  obtain ⟨a0, a1, a2, a3, a4, a5, a6, -⟩ := wdCAt hA
  obtain ⟨b0, b1, b2, b3, b4, b5, b6, -⟩ := wdCAt hB
  go_wp2_with fail
  clear a0 a1 a2 a3 a4 a5 a6 b0 b1 b2 b3 b4 b5 b6
  refine HTT.out.mono ?_
  rintro e W2 ⟨rfl, hb2⟩
  have hA2 := blkBelow hA hb2
  have hB2 := blkBelow hB hb2
  have HB2 : Hid (Below w.heap.size w W2) := HB1.out.trans (hb2.mono HB1.out.size)
  clear hA hB hb2 HB1 HTT
  obtain ⟨a0, a1, a2, a3, a4, a5, a6, -⟩ := wdCAt hA2
  obtain ⟨b0, b1, b2, b3, b4, b5, b6, -⟩ := wdCAt hB2
  go_wp2
  go_ret
  exact ⟨rfl, HB2.out⟩
end Go.Proofs.YtcfngdnmpogaoaaGreat
namespace Go.Proofs.YtcfngdnmpogaoaaGreat
open Go.RowKit

set_option maxRecDepth 20000 in
set_option maxHeartbeats 3200000 in
theorem sameAll_any (ov mv : Value) (ys ds : List WinX) (w : World) (hy : WinsAt w ov ys 0) (hd : WinsAt w mv ds 0) (hs : ys.map WinX.w = ds.map WinX.w) :
    Calls Tryz.prog 30 #[ov, mv] w fun e w' => e = .returned (.bool true) ∧ Below w.heap.size w w' := by
  have hlen : ds.length = ys.length := by have := congrArg List.length hs; simpa using this.symm
  have hl : ys.length ≤ 9223372036854775807 := by
    obtain ⟨oa, oc, hov⟩ := hy.len
    rcases hy.row with ⟨h1, h2⟩ | ⟨g, off, n, cap, cur, h1, _, hn, hc, _⟩
    · rw [hov] at h1
      simp only [Value.slice.injEq] at h1
      omega
    · rw [hov] at h1
      simp only [Value.slice.injEq] at h1
      have : maxLen = 9223372036854775807 := rfl
      omega
  have ht : ∀ x ∈ ys, x.w.tags.length ≤ 9223372036854775807 := fun x hx => by
    rcases (hy.tags x hx).1 with ⟨_, h2⟩ | ⟨g, off, n, cap, cur, _, _, hn, hc, _, hl, _⟩
    · have := congrArg List.length h2
      simp only [List.length_map, List.length_nil] at this
      omega
    · rw [List.length_map] at hl
      have : maxLen = 9223372036854775807 := rfl
      omega
  obtain ⟨oa, oc, hov⟩ := hy.len
  obtain ⟨ma, mc, hmv⟩ := hd.len
  rw [hlen] at hmv
  subst hov
  subst hmv
  obtain ⟨n, Hn⟩ : ∃ n, Hid (ys.length = n) := ⟨_, rfl⟩
  have HY : Hid (WinsAt w (.slice oa ys.length oc) ys 0) := hy
  have HM : Hid (WinsAt w (.slice ma ys.length mc) ds 0) := hd
  have HSame : Hid (ys.map WinX.w = ds.map WinX.w) := hs
  have HTf : Hid (∀ x ∈ ys, x.w.tags.length ≤ 9223372036854775807) := ht
  rw [Hn.out] at HY HM hl ⊢
  clear hy hd hs ht
  have hnn : ((n : Int) == (n : Int)) = true := by simp
  go_enter Tryz.func30, Tryz.ntmps30
  go_wp2_with fail
  go_loopw [5] (fun i wr => ∃ k : Nat, k ≤ n ∧ i = .int .i64 (k : Int) ∧ Below w.heap.size w wr) (fun i _ => n - (intOf i).toNat)
  case atStart => exact ⟨0, Nat.zero_le _, rfl, Below.refl _ _⟩
  case round =>
    obtain ⟨k, hk, rfl, hbw⟩ := hrel
    have Hbw : Hid (Below w.heap.size w wr) := hbw
    clear hbw
    by_cases hkn : k < n
    · have hky : k < ys.length := by rw [Hn.out]; exact hkn
      have hkd : k < ds.length := by rw [hlen]; exact hky
      obtain ⟨g, off, rfl, -, a0, a1, a2, a3, a4, a5, a6⟩ := HY.out.cells Hbw.out (List.getElem?_eq_getElem hky)
      obtain ⟨g2, off2, rfl, -, b0, b1, b2, b3, b4, b5, b6⟩ := HM.out.cells Hbw.out (List.getElem?_eq_getElem hkd)
      have hww : ds[k].w = ys[k].w := by
        have h1 := congrArg (fun l => l[k]?) HSame.out
        simp only [List.getElem?_map, List.getElem?_eq_getElem hky, List.getElem?_eq_getElem hkd, Option.map_some, Option.some.injEq] at h1
        exact h1.symm
      rw [hww] at b0 b1 b2 b3 b4 b5
      have hta := (HY.out.tags ys[k] (List.getElem_mem hky)).1.below Hbw.out (fun j hj => (((HY.out.tags ys[k] (List.getElem_mem hky)).1).blk_lt hj).1)
      have htb := (HM.out.tags ds[k] (List.getElem_mem hkd)).1.below Hbw.out (fun j hj => (((HM.out.tags ds[k] (List.getElem_mem hkd)).1).blk_lt hj).1)
      rw [hww] at htb
      have hfew := HTf.out ys[k] (List.getElem_mem hky)
      have HSm : Hid (Calls Tryz.prog 34 #[.agg (wdC ys[k].w.key ys[k].w.start ys[k].w.cnt ys[k].w.sum ys[k].w.lo ys[k].w.hi ys[k].tv), .agg (wdC ys[k].w.key ys[k].w.start ys[k].w.cnt ys[k].w.sum ys[k].w.lo ys[k].w.hi ds[k].tv)] wr.drew fun e w' => e = .returned (.bool true) ∧ Below wr.drew.heap.size wr.drew w') := sameK_any ys[k].w ys[k].tv ds[k].tv wr.drew (Row.drew hta) (Row.drew htb) (by omega)
      unfold wdC at HSm
      generalize ys[k].w = x at *
      generalize ys[k].tv = tva at *
      generalize ds[k].tv = tvb at *
      clear hta htb hww
      go_wp2_with fail
      refine wp_region_still_tail 8 (by kernel_rfl) (by kernel_rfl) ?_
      simp only [List.take_succ_cons, List.take_zero, List.drop_succ_cons, List.drop_zero]
      change wpStill Tryz.prog _ wr.drew (fun a' => wpList Tryz.prog _ _ _ a' wr.drew) _ _
      have a0 : wr.drew.cell? ⟨g, off + k * 7, none⟩ = some (.string x.key) := a0
      have a1 : wr.drew.cell? ⟨g, off + k * 7 + 1, none⟩ = some (.int .i64 x.start) := a1
      have a2 : wr.drew.cell? ⟨g, off + k * 7 + 2, none⟩ = some (.int .i64 x.cnt) := a2
      have a3 : wr.drew.cell? ⟨g, off + k * 7 + 3, none⟩ = some (.int .i64 x.sum) := a3
      have a4 : wr.drew.cell? ⟨g, off + k * 7 + 4, none⟩ = some (.int .i64 x.lo) := a4
      have a5 : wr.drew.cell? ⟨g, off + k * 7 + 5, none⟩ = some (.int .i64 x.hi) := a5
      have a6 : wr.drew.cell? ⟨g, off + k * 7 + 6, none⟩ = some tva := a6
      have b0 : wr.drew.cell? ⟨g2, off2 + k * 7, none⟩ = some (.string x.key) := b0
      have b1 : wr.drew.cell? ⟨g2, off2 + k * 7 + 1, none⟩ = some (.int .i64 x.start) := b1
      have b2 : wr.drew.cell? ⟨g2, off2 + k * 7 + 2, none⟩ = some (.int .i64 x.cnt) := b2
      have b3 : wr.drew.cell? ⟨g2, off2 + k * 7 + 3, none⟩ = some (.int .i64 x.sum) := b3
      have b4 : wr.drew.cell? ⟨g2, off2 + k * 7 + 4, none⟩ = some (.int .i64 x.lo) := b4
      have b5 : wr.drew.cell? ⟨g2, off2 + k * 7 + 5, none⟩ = some (.int .i64 x.hi) := b5
      have b6 : wr.drew.cell? ⟨g2, off2 + k * 7 + 6, none⟩ = some tvb := b6
      have HBd : Hid (Below w.heap.size w wr.drew) := Hbw.out.drew
      generalize wr.drew = W3 at *
      repeat still_step
      refine wpStill_nil ?_
      go_wp2_with fail
      refine HSm.out.mono ?_
      rintro e W4 ⟨rfl, hb4⟩
      have HB4 : Hid (Below w.heap.size w W4) := HBd.out.trans (hb4.mono HBd.out.size)
      clear hb4 HSm a0 a1 a2 a3 a4 a5 a6 b0 b1 b2 b3 b4 b5 b6
      go_wp2_with fail
      go_roundw
      case rel => exact ⟨k + 1, by omega, by go_num, HB4.out⟩
      case measure => simp [intOf]; omega
    · go_wp2_with fail
      go_ret
      exact ⟨rfl, Hbw.out⟩
end Go.Proofs.YtcfngdnmpogaoaaGreat
