import Derived.Test.YtcfngdnmpogaoaaGreatLinesUptoT07

/-
  slices.Grow, slices.Concat of bytes.
-/
namespace Go.Proofs.YtcfngdnmpogaoaaGreat
open Go.RowKit

theorem Row.slice {w : World} {v : Value} {xs : List Value} {e : TypeId} (h : Row w e 1 v xs) : ∃ a c, v = .slice a xs.length c ∧ xs.length ≤ c := by
  rcases h with ⟨rfl, rfl⟩ | ⟨g, off, n, cap, cur, rfl, _, hn, _, _, hl, _⟩
  · exact ⟨none, 0, rfl, Nat.le_refl _⟩
  · have : xs.length = n := by simpa using hl
    rw [this]
    exact ⟨_, cap, rfl, hn⟩

theorem grow_zero (w : World) :
    Calls Tryz.prog 96 #[.slice none 0 0, .int .i64 0] w fun e w' => e = .returned (.slice none 0 0) ∧ w' = w := by
  go_enter Tryz.func96, Tryz.ntmps96
  go_wp2
  go_ret
  exact ⟨rfl, rfl⟩

set_option maxRecDepth 20000 in
set_option maxHeartbeats 1600000 in
theorem grow_some (n : Nat) (w : World) (h0 : 0 < n) (hn : n ≤ 140737488355328) :
    Calls Tryz.prog 96 #[.slice none 0 0, .int .i64 n] w fun e w' => ∃ cap, e = .returned (.slice (some ⟨w.heap.size, 0, none⟩) 0 cap) ∧ n ≤ cap ∧ Row w' 5 1 (.slice (some ⟨w.heap.size, 0, none⟩) 0 cap) [] ∧ Below w.heap.size w w' := by
  obtain ⟨i, hi, hz0, hz1, hz2⟩ := info_parts info5
  go_enter Tryz.func96, Tryz.ntmps96
  go_wp2_with (at_builtin; go_must (refine wpList_append_make _ rfl _ _ _ _ rfl 5 i (.int .u8 0) 1 1 Tryz.underlying30 Tryz.underlying3 hi hz0 hz1 hz2 rfl Nat.one_pos n rfl rfl h0 ?hm ?hb ?next))
  case hm => simp only [maxLen]; omega
  case hb => omega
  intro cap w' hc hk hb hs hr
  go_wp2
  go_ret
  exact ⟨cap, rfl, hc, hr, hb⟩
theorem oneCell_bytes (l : List UInt8) : ∀ u ∈ l.map byteV, u.oneCell' = true := fun u hu => by
  obtain ⟨_, _, rfl⟩ := List.mem_map.1 hu; rfl

/-- What Grow gives, at whatever size. -/
theorem grow_any (n : Nat) (w : World) (hn : n ≤ 140737488355328) :
    Calls Tryz.prog 96 #[.slice none 0 0, .int .i64 n] w fun e w' => ∃ v, e = .returned v ∧ Row w' 5 1 v [] ∧ (∀ g, v.ownBlock = some g → w.heap.size ≤ g) ∧ Below w.heap.size w w' := by
  by_cases h0 : 0 < n
  · refine (grow_some n w h0 hn).mono ?_
    rintro e w' ⟨cap, rfl, _, hr, hb⟩
    exact ⟨_, rfl, hr, fun g hg => by simp [Value.ownBlock] at hg; omega, hb⟩
  · have : n = 0 := by omega
    subst this
    refine (grow_zero w).mono ?_
    rintro e w' ⟨rfl, rfl⟩
    exact ⟨_, rfl, Row.nil _ _ _, fun g hg => by simp [Value.ownBlock] at hg, Below.refl _ _⟩

set_option maxRecDepth 20000 in
set_option maxHeartbeats 3200000 in
theorem concat_two (b : Nat) (v1 v2 : Value) (l1 l2 : List UInt8) (w : World) (hb : b < w.heap.size) (c0 : w.cell? ⟨b, 0, none⟩ = some v1) (c1 : w.cell? ⟨b, 1, none⟩ = some v2) (h1 : Row w 5 1 v1 (l1.map byteV)) (h2 : Row w 5 1 v2 (l2.map byteV)) (hl : l1.length + l2.length ≤ 140737488355328) :
    Calls Tryz.prog 70 #[.slice (some ⟨b, 0, none⟩) 2 2] w fun e w' => ∃ v, e = .returned v ∧ Row w' 5 1 v ((l1 ++ l2).map byteV) ∧ (∀ g, v.ownBlock = some g → w.heap.size ≤ g) ∧ Below w.heap.size w w' := by
  obtain ⟨i, hi, hz0, hz1, hz2⟩ := info_parts info5
  have H1 : Hid (Row w 5 1 v1 (l1.map byteV)) := h1
  have H2 : Hid (Row w 5 1 v2 (l2.map byteV)) := h2
  have HB1 : Hid (∀ k, v1.ownBlock = some k → k < w.heap.size) := fun k hk => (h1.blk_lt hk).1
  have HB2 : Hid (∀ k, v2.ownBlock = some k → k < w.heap.size) := fun k hk => (h2.blk_lt hk).1
  obtain ⟨a1, k1, hv1, hk1⟩ := h1.slice
  obtain ⟨a2, k2, hv2, hk2⟩ := h2.slice
  rw [List.length_map] at hv1 hv2 hk1 hk2
  subst hv1 hv2
  clear h1 h2
  go_enter Tryz.func70, Tryz.ntmps70
  go_wp2
  refine wp_loop_rounds 3 ?_
  rw [rounds_succ]
  go_wp2
  rw [rounds_succ]
  go_wp2
  rw [rounds_succ]
  go_wp2_with fail
  have HG := grow_any (l1.length + l2.length) w hl
  rw [Int.natCast_add] at HG
  refine HG.mono ?_
  rintro e w1 ⟨v0, rfl, hr0, hg0, hb1⟩
  have d0 : w1.cell? ⟨b, 0, none⟩ = some (.slice a1 l1.length k1) := by rw [hb1.cell hb]; exact c0
  have d1 : w1.cell? ⟨b, 1, none⟩ = some (.slice a2 l2.length k2) := by rw [hb1.cell hb]; exact c1
  have R1 := H1.out.below hb1 HB1.out
  have R2 := H2.out.below hb1 HB2.out
  have S1 : Src Tryz.prog 1 30 (.slice a1 l1.length k1) l1.length (l1.map byteV) w1 := by
    have := Row.src (P := Tryz.prog) w1 R1 (oneCell_bytes l1) Tryz.underlying30
    rw [List.length_map] at this; exact this
  clear c0 c1 HG
  go_wp2
  refine wp_loop_rounds 3 ?_
  rw [rounds_succ]
  go_wp2_with (at_builtin; go_must (refine wpList_append_any _ rfl _ _ _ _ rfl 5 i (.int .u8 0) 1 1 Tryz.underlying30 hi hz0 hz1 hz2 rfl Nat.one_pos v0 [] rfl hr0 (.slice a1 l1.length k1) l1.length (l1.map byteV) rfl S1 ?h63 ?hby ?next))
  case h63 => simp only [maxLen, List.length_nil]; omega
  case hby => simp only [List.length_nil]; omega
  intro v3 w3 ha _
  have hs1 := hb1.size
  have hb3 := ha.below hg0 hs1
  have hg3 := ha.blk hg0 hs1
  have hr3 := ha.row
  have e1 : w3.cell? ⟨b, 1, none⟩ = some (.slice a2 l2.length k2) := by rw [hb3.cell hb]; exact d1
  have R2' := R2.below hb3 HB2.out
  have S2 : Src Tryz.prog 1 30 (.slice a2 l2.length k2) l2.length (l2.map byteV) w3 := by
    have := Row.src (P := Tryz.prog) w3 R2' (oneCell_bytes l2) Tryz.underlying30
    rw [List.length_map] at this; exact this
  rw [List.nil_append] at hr3
  have HB3 : Hid (Below w.heap.size w w3) := hb1.trans hb3
  clear ha hb3 d0 d1 S1 R1 R2 hb1 hr0 hg0
  go_wp2
  rw [rounds_succ]
  go_wp2_with (at_builtin; go_must (refine wpList_append_any _ rfl _ _ _ _ rfl 5 i (.int .u8 0) 1 1 Tryz.underlying30 hi hz0 hz1 hz2 rfl Nat.one_pos v3 (l1.map byteV) rfl hr3 (.slice a2 l2.length k2) l2.length (l2.map byteV) rfl S2 ?h63b ?hbyb ?nextb))
  case h63b => simp only [maxLen, List.length_map]; omega
  case hbyb => simp only [List.length_map]; omega
  intro v4 w4 ha _
  have hs3 := HB3.out.size
  have hb4 := ha.below hg3 hs3
  have hg4 := ha.blk hg3 hs3
  have hr4 := ha.row
  have HB4 : Hid (Below w.heap.size w w4) := HB3.out.trans hb4
  clear ha hb4 e1 S2 R2'
  go_wp2
  rw [rounds_succ]
  go_wp2
  go_ret
  exact ⟨v4, rfl, by rw [List.map_append]; exact hr4, hg4, HB4.out⟩
end Go.Proofs.YtcfngdnmpogaoaaGreat

/-
  read: the items of a source's bytes, one after the other.
-/
namespace Go.Proofs.YtcfngdnmpogaoaaGreat
open Go.RowKit

theorem unframe_row (v : Value) (L : List UInt8) (w : World) (h : Row w 5 1 v (L.map byteV)) (hl : L.length ≤ 9223372036854775807) :
    Calls Tryz.prog 16 #[v] w fun e w' => e = .returned (.tuple #[unfV L, .int .i64 (unfN L), .int .i64 (unfE L)]) ∧ Below w.heap.size w w' := by
  by_cases hL : L = []
  · subst hL
    obtain ⟨a, c, rfl, _⟩ := h.slice
    exact unframe_empty a c w
  · obtain ⟨g, off, n, cap, rfl, hn, hc⟩ := h.shape (by simpa using hL)
    obtain ⟨hb, rfl⟩ := h.bytes
    exact unframe_any g off cap L w hb hl hc

/-- Blocks of bytes are as they were. -/
def Bytes8 (w w' : World) : Prop := ∀ (k : Nat) (c : Array Value) (f : Nat × Nat), w.heap[k]? = some (Obj.cells c 5 f) → w'.heap[k]? = some (Obj.cells c 5 f)
theorem Bytes8.refl (w : World) : Bytes8 w w := fun _ _ _ h => h
theorem Bytes8.trans {a b c : World} (h : Bytes8 a b) (k : Bytes8 b c) : Bytes8 a c := fun i x f hx => k i x f (h i x f hx)
theorem Bytes8.ofBelow {w w' : World} (h : Below w.heap.size w w') : Bytes8 w w' := fun k c f hk => by
  rw [h.block k (Array.getElem?_eq_some_iff.1 hk).1]; exact hk
theorem Row.bytes8 {w w' : World} {v : Value} {xs : List Value} (h : Row w 5 1 v xs) (hb : Bytes8 w w') : Row w' 5 1 v xs := by
  rcases h with h | ⟨g, off, n, cap, cur, rfl, hg, r⟩
  · exact .inl h
  · exact .inr ⟨g, off, n, cap, cur, rfl, hb _ _ _ hg, r⟩

def lenV : Value → Nat
  | .slice _ n _ => n
  | _ => 0

/-- The rest of a slice. -/
theorem Row.rest {w : World} {e : TypeId} {g off n cap : Nat} {xs : List Value} (h : Row w e 1 (.slice (some ⟨g, off, none⟩) n cap) xs) (k : Nat) (hk : k ≤ n) (hne : k < cap) : Row w e 1 (.slice (some ⟨g, off + k, none⟩) (n - k) (cap - k)) (xs.drop k) := by
  rcases h with ⟨h, _⟩ | ⟨g', off', n', cap', cur, hv, hg, h1, h2, h3, h4, h5⟩
  · simp at h
  · simp only [Value.slice.injEq, Option.some.injEq, Addr.mk.injEq] at hv
    obtain ⟨⟨rfl, rfl, _⟩, rfl, rfl⟩ := hv
    refine .inr ⟨g, off + k, n - k, cap - k, cur, rfl, hg, by omega, by omega, by omega, by simp; omega, fun j hj => ?_⟩
    rw [List.getElem?_drop, Nat.add_assoc]
    exact h5 (k + j) (by omega)

theorem Row.empty {w : World} {e : TypeId} {g off n cap : Nat} {xs : List Value} (h : Row w e 1 (.slice (some ⟨g, off, none⟩) n cap) xs) : Row w e 1 (.slice (some ⟨g, off, none⟩) 0 0) [] := by
  rcases h with ⟨h, _⟩ | ⟨g', off', n', cap', cur, hv, hg, h1, h2, h3, h4, h5⟩
  · simp at h
  · simp only [Value.slice.injEq, Option.some.injEq, Addr.mk.injEq] at hv
    obtain ⟨⟨rfl, rfl, _⟩, rfl, rfl⟩ := hv
    exact .inr ⟨g, off, 0, 0, cur, rfl, hg, Nat.le_refl _, by omega, by omega, rfl, fun j hj => by simp at hj⟩

theorem unfN_pos (L : List UInt8) (h1 : unfShort L = false) (h2 : unfOk L = true) : unfN L = (((L.getD 0 0).toNat + 3 : Nat) : Int) ∧ (L.getD 0 0).toNat + 3 ≤ L.length := by
  refine ⟨by rw [unfN, h1, h2]; rfl, ?_⟩
  have := of_decide_eq_false h1
  omega
theorem unfE_ok (L : List UInt8) (h : unfE L = 0) : unfShort L = true ∨ unfShort L = false ∧ unfOk L = true := by
  unfold unfE at h
  cases h1 : unfShort L with
  | true => exact .inl rfl
  | false =>
    cases h2 : unfOk L with
    | true => exact .inr ⟨rfl, rfl⟩
    | false => simp [h1, h2] at h
theorem unf_short (L : List UInt8) (h : unfShort L = true) : unfV L = itemNone ∧ unfN L = 0 ∧ unfE L = 0 := ⟨by rw [unfV, h]; rfl, by rw [unfN, h]; rfl, by rw [unfE, h]; rfl⟩
theorem unf_bad (L : List UInt8) (h : unfShort L = false) (h2 : unfOk L = false) : unfV L = itemNone ∧ unfN L = 0 ∧ unfE L = 2 := ⟨by rw [unfV, h, h2]; rfl, by rw [unfN, h, h2]; rfl, by rw [unfE, h, h2]; rfl⟩

set_option maxRecDepth 20000 in
set_option maxHeartbeats 3200000 in
/-- read, over what do and breakOff make. J W L: all ahead of L has been done. -/
theorem read_of (g o : Nat) (v0 bv : Value) (l0 l : List UInt8) (w : World) (Q : World → Prop) (J : World → List UInt8 → Prop)
    (c1 : w.cell? ⟨g, o + 1, none⟩ = some (.bool false)) (c2 : w.cell? ⟨g, o + 2, none⟩ = some v0) (hr0 : Row w 5 1 v0 (l0.map byteV)) (hrb : Row w 5 1 bv (l.map byteV)) (hlen : l0.length + l.length ≤ 140737488355328)
    (hJ0 : J w (l0 ++ l)) (hJb : ∀ W W' L, J W L → Below W.heap.size W W' → J W' L)
    (hJd : ∀ W L, J W L → unfShort L = false → unfOk L = true → L.length ≤ l0.length + l.length → Calls Tryz.prog 72 #[.pointer (some ⟨g, 0, none⟩), .pointer (some ⟨g, o, none⟩), unfV L] W fun e W' => e = .returned (.tuple #[]) ∧ J W' (L.drop ((L.getD 0 0).toNat + 3)) ∧ Bytes8 W W')
    (hJx : ∀ W L, J W L → unfShort L = false → unfOk L = false → Calls Tryz.prog 71 #[.pointer (some ⟨g, 0, none⟩), .pointer (some ⟨g, o, none⟩)] W fun e W' => e = .returned (.tuple #[]) ∧ Q W')
    (hJe : ∀ W L v, J W L → unfShort L = true → Row W 5 1 v (L.map byteV) → (L = [] → v = .slice none 0 0) → (∃ u, W.cell? ⟨g, o + 2, none⟩ = some u) ∧ W.frozen? ⟨g, o + 2, none⟩ = false ∧ Q (W.setCell ⟨g, o + 2, none⟩ v)) :
    Calls Tryz.prog 45 #[.pointer (some ⟨g, 0, none⟩), .pointer (some ⟨g, o, none⟩), bv] w fun e w' => e = .returned (.tuple #[]) ∧ Q w' := by
  obtain ⟨i5, hi, hz0, hz1, hz2⟩ := info_parts info5
  have HJ0 : Hid (J w (l0 ++ l)) := hJ0
  have HJb : Hid (∀ W W' L, J W L → Below W.heap.size W W' → J W' L) := hJb
  have HJd : Hid (∀ W L, J W L → unfShort L = false → unfOk L = true → L.length ≤ l0.length + l.length → Calls Tryz.prog 72 #[.pointer (some ⟨g, 0, none⟩), .pointer (some ⟨g, o, none⟩), unfV L] W fun e W' => e = .returned (.tuple #[]) ∧ J W' (L.drop ((L.getD 0 0).toNat + 3)) ∧ Bytes8 W W') := hJd
  have HJx : Hid (∀ W L, J W L → unfShort L = false → unfOk L = false → Calls Tryz.prog 71 #[.pointer (some ⟨g, 0, none⟩), .pointer (some ⟨g, o, none⟩)] W fun e W' => e = .returned (.tuple #[]) ∧ Q W') := hJx
  have HJe : Hid (∀ W L v, J W L → unfShort L = true → Row W 5 1 v (L.map byteV) → (L = [] → v = .slice none 0 0) → (∃ u, W.cell? ⟨g, o + 2, none⟩ = some u) ∧ W.frozen? ⟨g, o + 2, none⟩ = false ∧ Q (W.setCell ⟨g, o + 2, none⟩ v)) := hJe
  have HR0 : Hid (Row w 5 1 v0 (l0.map byteV)) := hr0
  have HRb : Hid (Row w 5 1 bv (l.map byteV)) := hrb
  obtain ⟨a0, k0, hv0, hk0⟩ := hr0.slice
  obtain ⟨ab, kb, hvb, hkb⟩ := hrb.slice
  rw [List.length_map] at hv0 hvb hk0 hkb
  subst hv0 hvb
  clear hJ0 hJb hJd hJx hJe hr0 hrb
  go_enter Tryz.func45, Tryz.ntmps45
  go_wp2_with fail
  refine (concat_two w.heap.size (.slice a0 l0.length k0) (.slice ab l.length kb) l0 l _ (by simp) (by simp) (by simp) (HR0.out.alloc _) (HRb.out.alloc _) hlen).mono ?_
  rintro e W0 ⟨vL, rfl, hrL, hgL, hbL⟩
  have HRL : Hid (Row W0 5 1 vL ((l0 ++ l).map byteV)) := hrL
  have HJL : Hid (J W0 (l0 ++ l)) := HJb.out w W0 _ HJ0.out (((Below.refl _ w).alloc (Nat.le_refl _) _).trans (hbL.mono (by simp)))
  clear hrL hgL hbL c1 c2
  go_wp2
  go_loopw [6] (fun lv wr => ∃ L : List UInt8, Row wr 5 1 lv (L.map byteV) ∧ J wr L ∧ L.length ≤ l0.length + l.length) (fun lv _ => lenV lv)
  case atStart => exact ⟨l0 ++ l, HRL.out, HJL.out, by simp⟩
  case round =>
    obtain ⟨L, hrow, hJ, hLl⟩ := hrel
    have HRow : Hid (Row wr 5 1 u6 (L.map byteV)) := hrow
    have HJ : Hid (J wr L) := hJ
    have HU := unframe_row u6 L wr hrow (by omega)
    clear hrow hJ
    cases hsh : unfShort L with
    | true =>
      obtain ⟨e1, e2, e3⟩ := unf_short L hsh
      rw [e1, e2, e3] at HU
      unfold itemNone at HU
      clear e1 e2 e3
      go_wp2_with fail
      refine HU.mono ?_
      rintro e W1 ⟨rfl, hb⟩
      have HJ1 : Hid (J (W1.alloc (.cells #[.int .i64 0, .string ⟨#[]⟩, .int .i64 0, .int .i64 0, .int .u32 0] 28)) L) := HJb.out _ _ _ HJ.out (hb.trans ((Below.refl _ W1).alloc (Nat.le_refl _) _ |>.mono hb.size))
      have HR1 : Hid (Row (W1.alloc (.cells #[.int .i64 0, .string ⟨#[]⟩, .int .i64 0, .int .i64 0, .int .u32 0] 28)) 5 1 u6 (L.map byteV)) := (HRow.out.bytes8 (Bytes8.ofBelow hb)).alloc _
      clear hb HU
      have S1 : Src Tryz.prog 1 30 u6 L.length (L.map byteV) (W1.alloc (.cells #[.int .i64 0, .string ⟨#[]⟩, .int .i64 0, .int .i64 0, .int .u32 0] 28)) := by
        have := Row.src (P := Tryz.prog) _ HR1.out (oneCell_bytes L) Tryz.underlying30
        rw [List.length_map] at this; exact this
      go_wp2_with (at_builtin; go_must (refine wpList_append_any _ rfl _ _ _ _ rfl 5 i5 (.int .u8 0) 1 1 Tryz.underlying30 hi hz0 hz1 hz2 rfl Nat.one_pos (.slice none 0 0) [] rfl (Row.nil _ _ _) u6 L.length (L.map byteV) rfl S1 ?h63 ?hby ?next))
      case h63 => simp only [maxLen, List.length_nil]; omega
      case hby => simp only [List.length_nil]; omega
      intro v3 W3 ha hnil
      have hb3 := ha.below (B := (W1.alloc (.cells #[.int .i64 0, .string ⟨#[]⟩, .int .i64 0, .int .i64 0, .int .u32 0] 28)).heap.size) (by intro g hg; simp [Value.ownBlock] at hg) (Nat.le_refl _)
      have hr3 := ha.row
      rw [List.nil_append] at hr3
      obtain ⟨⟨u, hu⟩, hfz, hQ⟩ := HJe.out W3 L v3 (HJb.out _ _ _ HJ1.out hb3) hsh hr3 (fun hL => hnil (by simp [hL]))
      obtain ⟨a3, k3, hv3, -⟩ := hr3.slice
      subst hv3
      have HQ : Hid (Q (W3.setCell ⟨g, o + 2, none⟩ (.slice a3 (L.map byteV).length k3))) := hQ
      clear ha hb3 hr3 hQ S1 hnil
      go_wp2
      go_end0
      have hQ := HQ.out
      rw [List.length_map] at hQ
      exact ⟨rfl, hQ⟩
    | false =>
      cases hok : unfOk L with
      | false =>
        obtain ⟨e1, e2, e3⟩ := unf_bad L hsh hok
        rw [e1, e2, e3] at HU
        unfold itemNone at HU
        clear e1 e2 e3
        go_wp2_with fail
        refine HU.mono ?_
        rintro e W1 ⟨rfl, hb⟩
        have HJ1 : Hid (J (W1.alloc (.cells #[.int .i64 0, .string ⟨#[]⟩, .int .i64 0, .int .i64 0, .int .u32 0] 28)) L) := HJb.out _ _ _ HJ.out (hb.trans ((Below.refl _ W1).alloc (Nat.le_refl _) _ |>.mono hb.size))
        clear hb HU
        go_wp2_with fail
        refine (HJx.out _ _ HJ1.out hsh hok).mono ?_
        rintro e W3 ⟨rfl, hQ⟩
        go_wp2
        refine bodyPost_ret (results_none rfl _ _ _) rfl ?_
        exact ⟨rfl, hQ⟩
      | true =>
        obtain ⟨hn, hnl⟩ := unfN_pos L hsh hok
        have hE : unfE L = 0 := by rw [unfE, hsh, hok]; rfl
        obtain ⟨ik, key, it, iv, itg, hV⟩ := unfV_cells L
        rw [hn, hE, hV] at HU
        have HD := HJd.out
        have HV : Hid (unfV L = .agg #[.int .i64 ik, .string key, .int .i64 it, .int .i64 iv, .int .u32 itg]) := hV
        obtain ⟨gL, oL, nL, cL, hu6, hnL, hcL⟩ := HRow.out.shape (by intro hh; have := congrArg List.length hh; simp at this; subst this; simp at hnl)
        rw [List.length_map, Nat.mul_one] at hnL
        subst hnL
        subst hu6
        generalize hN : (L.getD 0 0).toNat + 3 = N at *
        have hN3 : 3 ≤ N := by omega
        have HN : Hid ((L.getD 0 0).toNat + 3 = N) := hN
        clear hN hn hE hV
        go_wp2_with fail
        refine HU.mono ?_
        rintro e W1 ⟨rfl, hb⟩
        have HJ1 : Hid (J (W1.alloc (.cells #[.int .i64 ik, .string key, .int .i64 it, .int .i64 iv, .int .u32 itg] 28)) L) := HJb.out _ _ _ HJ.out (hb.trans ((Below.refl _ W1).alloc (Nat.le_refl _) _ |>.mono hb.size))
        have HR1 : Hid (Row (W1.alloc (.cells #[.int .i64 ik, .string key, .int .i64 it, .int .i64 iv, .int .u32 itg] 28)) 5 1 (.slice (some ⟨gL, oL, none⟩) L.length cL) (L.map byteV)) := (HRow.out.bytes8 (Bytes8.ofBelow hb)).alloc _
        have HD1 := HD _ L HJ1.out hsh hok hLl
        rw [HV.out, HN.out] at HD1
        clear hb HU HD
        go_wp2_with fail
        refine HD1.mono ?_
        rintro e W3 ⟨rfl, hJ3, hB3⟩
        have HJ3 : Hid (J W3 (L.drop N)) := hJ3
        have HR3 : Hid (Row W3 5 1 (.slice (some ⟨gL, oL, none⟩) L.length cL) (L.map byteV)) := HR1.out.bytes8 hB3
        clear hJ3 hB3 HD1
        by_cases hNc : N < cL
        · have hNc' : ¬ cL = N := by omega
          go_wp2
          go_roundw
          case rel =>
            refine ⟨L.drop N, ?_, HJ3.out, by rw [List.length_drop]; omega⟩
            rw [List.map_drop]
            exact HR3.out.rest N hnl hNc
          case measure => simp [lenV]; omega
        · have hNc' : cL = N := by omega
          subst hNc'
          go_wp2
          go_roundw
          case rel =>
            refine ⟨L.drop cL, ?_, HJ3.out, by rw [List.length_drop]; omega⟩
            rw [List.drop_of_length_le (by omega)]
            exact HR3.out.empty
          case measure => simp [lenV]; omega
end Go.Proofs.YtcfngdnmpogaoaaGreat

/-
  The calls of the code's flow: New, Open, Feed, Close, Line, Counts, where they are not refused.
-/
namespace Go.Proofs.YtcfngdnmpogaoaaGreat
open Go.RowKit Go.MuLone

theorem SF.lockAt {w : World} {g : Nat} {r : SCells} (h : SF w g r) {k : Int} (hk : r.lk = k) : w.cell? ⟨g, 0, none⟩ = some (.int .i32 k) := by rw [← hk]; exact h.headAt 0 rfl

set_option maxHeartbeats 1600000 in
theorem open_yes (g n : Nat) (r : SCells) (s : SSrc) (w : World) (h : SF w g r) (hlk : r.lk = 0) (hs : r.src[n]? = some s) (ho : s.opened = false) :
    Calls Tryz.prog 22 #[.pointer (some ⟨g, 0, none⟩), .int .i64 n] w fun e w' => e = .returned (.int .i64 0) ∧ SF w' g (r.setSrc n ⟨true, s.broken, s.unread, s.time, s.is⟩) ∧ Kept (fun k => k = g) w w' := by
  have hn : n < 8 := by have := (List.getElem?_eq_some_iff.1 hs).1; have := h.len; omega
  have hi := isSource_any n
  rw [decide_eq_true (show 0 ≤ (n : Int) ∧ (n : Int) < 8 by omega)] at hi
  have h0 := h.lockAt hlk
  have f0 := h.frozen 0
  have H1 : Hid (SF (w.setCell ⟨g, 0, none⟩ (.int .i32 1)) g (r.lock 1)) := h.putLock 1
  have K1 : Hid (Kept (fun k => k = g) w (w.setCell ⟨g, 0, none⟩ (.int .i32 1))) := (Kept.refl _ w).setCell ⟨g, 0, none⟩ _ (fun _ => rfl)
  clear h
  go_enter_defers Tryz.func22, Tryz.ntmps22
  go_wp2_with (go_at_call 42; refine (lock_free muLib ⟨g, 0, none⟩ _ h0 f0).mono ?_; rintro e w' ⟨rfl, rfl⟩)
  generalize w.setCell ⟨g, 0, none⟩ (.int .i32 1) = W1 at *
  have c0 : W1.cell? ⟨g, 6 + n * 5, none⟩ = some (.bool false) := H1.out.cell (by rw [← ho]; exact (r.lock 1).srcAt n 0 s hs (by omega))
  have fz : ∀ j, W1.frozen? ⟨g, j, none⟩ = false := H1.out.frozen
  clear h0 f0
  refine (hi _).mono ?_
  rintro e w' ⟨rfl, rfl⟩
  go_wp2_with fail
  have H2 : Hid (SF (w'.setCell ⟨g, 6 + n * 5, none⟩ (.bool true)) g ((r.lock 1).setSrc n ⟨true, s.broken, s.unread, s.time, s.is⟩)) := H1.out.putSrc n 0 s _ _ hs (by omega) rfl
  have K2 : Hid (Kept (fun k => k = g) w (w'.setCell ⟨g, 6 + n * 5, none⟩ (.bool true))) := K1.out.setCell ⟨g, _, none⟩ _ (fun _ => rfl)
  generalize w'.setCell ⟨g, 6 + n * 5, none⟩ (.bool true) = W2 at *
  refine leaves_cons (f := 43) (args := #[.pointer (some ⟨g, 0, none⟩)]) (by simp) (by simp [go_sem]) ?_
  refine (unlock_deferred muLib ⟨g, 0, none⟩ .returning _ (H2.out.lockAt rfl) (H2.out.frozen _)).mono ?_
  rintro e u' w'' ⟨rfl, rfl, rfl⟩
  refine ⟨_, results_tmp rfl _ _ _, rfl, ?_, K2.out.setCell ⟨g, 0, none⟩ _ (fun _ => rfl)⟩
  have := H2.out.putLock 0
  have e : (SCells.lock ((r.lock 1).setSrc n ⟨true, s.broken, s.unread, s.time, s.is⟩) 0) = r.setSrc n ⟨true, s.broken, s.unread, s.time, s.is⟩ := by
    cases r; simp only at hlk; subst hlk; rfl
  rw [e] at this; exact this

set_option maxHeartbeats 1600000 in
theorem line_any (g : Nat) (r : SCells) (w : World) (h : SF w g r) (hlk : r.lk = 0) :
    Calls Tryz.prog 29 #[.pointer (some ⟨g, 0, none⟩)] w fun e w' => e = .returned (.tuple #[.int .i64 r.lt, .bool r.li]) ∧ SF w' g r ∧ Kept (fun k => k = g) w w' := by
  have h0 := h.lockAt hlk
  have f0 := h.frozen 0
  have H1 : Hid (SF (w.setCell ⟨g, 0, none⟩ (.int .i32 1)) g (r.lock 1)) := h.putLock 1
  have K1 : Hid (Kept (fun k => k = g) w (w.setCell ⟨g, 0, none⟩ (.int .i32 1))) := (Kept.refl _ w).setCell ⟨g, 0, none⟩ _ (fun _ => rfl)
  clear h
  go_enter_defers Tryz.func29, Tryz.ntmps29
  go_wp2_with (go_at_call 42; refine (lock_free muLib ⟨g, 0, none⟩ _ h0 f0).mono ?_; rintro e w' ⟨rfl, rfl⟩)
  generalize w.setCell ⟨g, 0, none⟩ (.int .i32 1) = W1 at *
  have c46 : W1.cell? ⟨g, 46, none⟩ = some (.int .i64 r.lt) := H1.out.tailAt 0 rfl
  have c47 : W1.cell? ⟨g, 47, none⟩ = some (.bool r.li) := H1.out.tailAt 1 rfl
  clear h0 f0
  go_quiet (fail)
  go_wp2
  have H2 : Hid (SF (W1.drewN nq) g (r.lock 1)) := H1.out.congr (by simp)
  have K2 : Hid (Kept (fun k => k = g) w (W1.drewN nq)) := K1.out.drewN nq
  generalize W1.drewN nq = W2 at *
  refine leaves_cons (f := 43) (args := #[.pointer (some ⟨g, 0, none⟩)]) (by simp) (by simp [go_sem]) ?_
  refine (unlock_deferred muLib ⟨g, 0, none⟩ .returning _ (H2.out.lockAt rfl) (H2.out.frozen _)).mono ?_
  rintro e u' w'' ⟨rfl, rfl, rfl⟩
  refine ⟨_, results_tmp2 rfl _ _ _, rfl, ?_, K2.out.setCell ⟨g, 0, none⟩ _ (fun _ => rfl)⟩
  have := H2.out.putLock 0
  have e : (SCells.lock (r.lock 1) 0) = r := by cases r; simp only at hlk; subst hlk; rfl
  rw [e] at this; exact this

set_option maxHeartbeats 1600000 in
theorem feed_of (g n : Nat) (r : SCells) (s : SSrc) (bv : Value) (w : World) (h : SF w g r) (hlk : r.lk = 0) (hs : r.src[n]? = some s) (ho : s.opened = true) (P : World → Prop)
    (hP : ∀ W, P W → W.cell? ⟨g, 0, none⟩ = some (.int .i32 1) ∧ W.frozen? ⟨g, 0, none⟩ = false)
    (hread : ∀ W, SF W g (r.lock 1) → Kept (fun k => k = g) w W → Calls Tryz.prog 45 #[.pointer (some ⟨g, 0, none⟩), .pointer (some ⟨g, 6 + n * 5, none⟩), bv] W fun e W' => e = .returned (.tuple #[]) ∧ P W') :
    Calls Tryz.prog 20 #[.pointer (some ⟨g, 0, none⟩), .int .i64 n, bv] w fun e w' => e = .returned (.int .i64 0) ∧ ∃ W, P W ∧ w' = W.setCell ⟨g, 0, none⟩ (.int .i32 0) := by
  have h0 := h.lockAt hlk
  have f0 := h.frozen 0
  have H1 : Hid (SF (w.setCell ⟨g, 0, none⟩ (.int .i32 1)) g (r.lock 1)) := h.putLock 1
  have K1 : Hid (Kept (fun k => k = g) w (w.setCell ⟨g, 0, none⟩ (.int .i32 1))) := (Kept.refl _ w).setCell ⟨g, 0, none⟩ _ (fun _ => rfl)
  have HP : Hid (∀ W, P W → W.cell? ⟨g, 0, none⟩ = some (.int .i32 1) ∧ W.frozen? ⟨g, 0, none⟩ = false) := hP
  have HR : Hid (∀ W, SF W g (r.lock 1) → Kept (fun k => k = g) w W → Calls Tryz.prog 45 #[.pointer (some ⟨g, 0, none⟩), .pointer (some ⟨g, 6 + n * 5, none⟩), bv] W fun e W' => e = .returned (.tuple #[]) ∧ P W') := hread
  clear h hP hread
  go_enter_defers Tryz.func20, Tryz.ntmps20
  go_wp2_with (go_at_call 42; refine (lock_free muLib ⟨g, 0, none⟩ _ h0 f0).mono ?_; rintro e w' ⟨rfl, rfl⟩)
  generalize w.setCell ⟨g, 0, none⟩ (.int .i32 1) = W1 at *
  clear h0 f0
  refine (openSource_yes g n (r.lock 1) s W1 H1.out hs ho).mono ?_
  rintro e w' ⟨rfl, rfl⟩
  go_wp2_with fail
  refine (HR.out _ H1.out K1.out).mono ?_
  rintro e W2 ⟨rfl, hp⟩
  have HP2 : Hid (P W2) := hp
  clear hp
  go_wp2_with fail
  refine leaves_cons (f := 43) (args := #[.pointer (some ⟨g, 0, none⟩)]) (by simp) (by simp [go_sem]) ?_
  refine (unlock_deferred muLib ⟨g, 0, none⟩ .returning _ (HP.out W2 HP2.out).1 (HP.out W2 HP2.out).2).mono ?_
  rintro e u' w'' ⟨rfl, rfl, rfl⟩
  exact ⟨_, results_tmp rfl _ _ _, rfl, W2, HP2.out, rfl⟩

set_option maxHeartbeats 1600000 in
theorem close_of (g n : Nat) (r : SCells) (s : SSrc) (w : World) (h : SF w g r) (hlk : r.lk = 0) (hs : r.src[n]? = some s) (ho : s.opened = true) (P : World → Prop)
    (hP : ∀ W, P W → W.cell? ⟨g, 0, none⟩ = some (.int .i32 1) ∧ W.frozen? ⟨g, 0, none⟩ = false)
    (hmove : ∀ W, SF W g ((r.lock 1).setSrc n SSrc.zero) → Kept (fun k => k = g) w W → Calls Tryz.prog 77 #[.pointer (some ⟨g, 0, none⟩)] W fun e W' => e = .returned (.tuple #[]) ∧ P W') :
    Calls Tryz.prog 49 #[.pointer (some ⟨g, 0, none⟩), .int .i64 n] w fun e w' => e = .returned (.int .i64 0) ∧ ∃ W, P W ∧ w' = W.setCell ⟨g, 0, none⟩ (.int .i32 0) := by
  have h0 := h.lockAt hlk
  have f0 := h.frozen 0
  have H1 : Hid (SF (w.setCell ⟨g, 0, none⟩ (.int .i32 1)) g (r.lock 1)) := h.putLock 1
  have K1 : Hid (Kept (fun k => k = g) w (w.setCell ⟨g, 0, none⟩ (.int .i32 1))) := (Kept.refl _ w).setCell ⟨g, 0, none⟩ _ (fun _ => rfl)
  have HP : Hid (∀ W, P W → W.cell? ⟨g, 0, none⟩ = some (.int .i32 1) ∧ W.frozen? ⟨g, 0, none⟩ = false) := hP
  have HR : Hid (∀ W, SF W g ((r.lock 1).setSrc n SSrc.zero) → Kept (fun k => k = g) w W → Calls Tryz.prog 77 #[.pointer (some ⟨g, 0, none⟩)] W fun e W' => e = .returned (.tuple #[]) ∧ P W') := hmove
  clear h hP hmove
  go_enter_defers Tryz.func49, Tryz.ntmps49
  go_wp2_with (go_at_call 42; refine (lock_free muLib ⟨g, 0, none⟩ _ h0 f0).mono ?_; rintro e w' ⟨rfl, rfl⟩)
  generalize w.setCell ⟨g, 0, none⟩ (.int .i32 1) = W1 at *
  clear h0 f0
  refine (openSource_yes g n (r.lock 1) s W1 H1.out hs ho).mono ?_
  rintro e w' ⟨rfl, rfl⟩
  have c0 : w'.cell? ⟨g, 6 + n * 5, none⟩ = some (.bool s.opened) := H1.out.cell ((r.lock 1).srcAt n 0 s hs (by omega))
  have c1 : w'.cell? ⟨g, 6 + n * 5 + 1, none⟩ = some (.bool s.broken) := H1.out.cell ((r.lock 1).srcAt n 1 s hs (by omega))
  have c2 : w'.cell? ⟨g, 6 + n * 5 + 2, none⟩ = some s.unread := H1.out.cell ((r.lock 1).srcAt n 2 s hs (by omega))
  have c3 : w'.cell? ⟨g, 6 + n * 5 + 3, none⟩ = some (.int .i64 s.time) := H1.out.cell ((r.lock 1).srcAt n 3 s hs (by omega))
  have c4 : w'.cell? ⟨g, 6 + n * 5 + 4, none⟩ = some (.bool s.is) := H1.out.cell ((r.lock 1).srcAt n 4 s hs (by omega))
  have fz : ∀ j, w'.frozen? ⟨g, j, none⟩ = false := H1.out.frozen
  have H2 : Hid (SF (((((w'.setCell ⟨g, 6 + n * 5, none⟩ (.bool false)).setCell ⟨g, 6 + n * 5 + 1, none⟩ (.bool false)).setCell ⟨g, 6 + n * 5 + 2, none⟩ (.slice none 0 0)).setCell ⟨g, 6 + n * 5 + 3, none⟩ (.int .i64 0)).setCell ⟨g, 6 + n * 5 + 4, none⟩ (.bool false)) g ((r.lock 1).setSrc n SSrc.zero)) := H1.out.putAll n s false false (.slice none 0 0) 0 false hs
  have K2 : Hid (Kept (fun k => k = g) w (((((w'.setCell ⟨g, 6 + n * 5, none⟩ (.bool false)).setCell ⟨g, 6 + n * 5 + 1, none⟩ (.bool false)).setCell ⟨g, 6 + n * 5 + 2, none⟩ (.slice none 0 0)).setCell ⟨g, 6 + n * 5 + 3, none⟩ (.int .i64 0)).setCell ⟨g, 6 + n * 5 + 4, none⟩ (.bool false))) := by
    refine Kept.setCell ?_ ⟨g, _, none⟩ _ (fun _ => rfl)
    refine Kept.setCell ?_ ⟨g, _, none⟩ _ (fun _ => rfl)
    refine Kept.setCell ?_ ⟨g, _, none⟩ _ (fun _ => rfl)
    refine Kept.setCell ?_ ⟨g, _, none⟩ _ (fun _ => rfl)
    refine Kept.setCell ?_ ⟨g, _, none⟩ _ (fun _ => rfl)
    exact K1.out
  go_wp2_with fail
  generalize ((((w'.setCell ⟨g, 6 + n * 5, none⟩ (.bool false)).setCell ⟨g, 6 + n * 5 + 1, none⟩ (.bool false)).setCell ⟨g, 6 + n * 5 + 2, none⟩ (.slice none 0 0)).setCell ⟨g, 6 + n * 5 + 3, none⟩ (.int .i64 0)).setCell ⟨g, 6 + n * 5 + 4, none⟩ (.bool false) = W3 at *
  refine (HR.out _ H2.out K2.out).mono ?_
  rintro e W2 ⟨rfl, hp⟩
  have HP2 : Hid (P W2) := hp
  clear hp
  go_wp2_with fail
  refine leaves_cons (f := 43) (args := #[.pointer (some ⟨g, 0, none⟩)]) (by simp) (by simp [go_sem]) ?_
  refine (unlock_deferred muLib ⟨g, 0, none⟩ .returning _ (HP.out W2 HP2.out).1 (HP.out W2 HP2.out).2).mono ?_
  rintro e u' w'' ⟨rfl, rfl, rfl⟩
  exact ⟨_, results_tmp rfl _ _ _, rfl, W2, HP2.out, rfl⟩

theorem new_yes (size slide late keys : Int) (w : World) (hc : isConf size slide late keys) :
    Calls Tryz.prog 41 #[confV size slide late keys] w fun e w' => ∃ g, w.heap.size ≤ g ∧ e = .returned (.tuple #[.pointer (some ⟨g, 0, none⟩), .int .i64 0]) ∧ SF w' g (SCells.new size slide late keys) ∧ Below w.heap.size w w' := by
  have HC : Hid (isConf size slide late keys) := hc
  clear hc
  go_enter Tryz.func41, Tryz.ntmps41
  go_wp2_with fail
  refine (isConfig_any size slide late keys _).mono ?_
  rintro e W ⟨⟨b, rfl, hb⟩, hB⟩
  have hbt : b = true := hb.2 HC.out
  subst hbt
  have c0 : W.cell? ⟨w.heap.size, 0, none⟩ = some (.int .i64 size) := by rw [hB.cell (by simp)]; simp
  have c1 : W.cell? ⟨w.heap.size, 1, none⟩ = some (.int .i64 slide) := by rw [hB.cell (by simp)]; simp
  have c2 : W.cell? ⟨w.heap.size, 2, none⟩ = some (.int .i64 late) := by rw [hB.cell (by simp)]; simp
  have c3 : W.cell? ⟨w.heap.size, 3, none⟩ = some (.int .i64 keys) := by rw [hB.cell (by simp)]; simp
  have HB : Hid (Below w.heap.size w W) := ((Below.refl _ w).alloc (Nat.le_refl _) _).trans (hB.mono (by simp))
  clear hB hb
  go_wp2_with fail
  refine bodyPost_ret (results_tmp2 rfl _ _ _) rfl ⟨W.heap.size, HB.out.size, rfl, ⟨?_, rfl⟩, HB.out.alloc HB.out.size _⟩
  rw [heap_alloc_new]
  rfl
end Go.Proofs.YtcfngdnmpogaoaaGreat
