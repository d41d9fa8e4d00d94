/-
  read: the items of a source's bytes, one after the other.
-/
import Derived.Test.YtcfngdnmpogaoaaSRead
namespace Go.Proofs.Ytcfngdnmpogaoaa
open Go.RowKit

theorem unframe_row (v : Value) (L : List UInt8) (w : World) (h : Row w 5 1 v (L.map byteV)) (hl : L.length ≤ 9223372036854775807) :
    Calls Try.prog 25 #[v] w fun e w' => e = .returned (.tuple #[unfV L, .int .i64 (unfN L), .int .i64 (unfE L)]) ∧ Below w.heap.size w w' := by
  by_cases hL : L = []
  · subst hL
    obtain ⟨a, c, rfl, _⟩ := h.slice
    exact unframe_empty a c w
  · obtain ⟨g, off, n, cap, rfl, hn, hc⟩ := h.shape (by simpa using hL)
    obtain ⟨hb, rfl⟩ := h.bytes
    exact unframe_any g off cap L w hb hl hc

/-- Blocks of bytes are as they were. -/
def Bytes8 (w w' : World) : Prop := ∀ (k : Nat) (c : Array Value) (f : Nat × Nat), w.heap[k]? = some (Obj.cells c 5 f) → w'.heap[k]? = some (Obj.cells c 5 f)
theorem Bytes8.refl (w : World) : Bytes8 w w := fun _ _ _ h => h
theorem Bytes8.trans {a b c : World} (h : Bytes8 a b) (k : Bytes8 b c) : Bytes8 a c := fun i x f hx => k i x f (h i x f hx)
theorem Bytes8.ofBelow {w w' : World} (h : Below w.heap.size w w') : Bytes8 w w' := fun k c f hk => by
  rw [h.block k (Array.getElem?_eq_some_iff.1 hk).1]; exact hk
theorem Row.bytes8 {w w' : World} {v : Value} {xs : List Value} (h : Row w 5 1 v xs) (hb : Bytes8 w w') : Row w' 5 1 v xs := by
  rcases h with h | ⟨g, off, n, cap, cur, rfl, hg, r⟩
  · exact .inl h
  · exact .inr ⟨g, off, n, cap, cur, rfl, hb _ _ _ hg, r⟩

def lenV : Value → Nat
  | .slice _ n _ => n
  | _ => 0

/-- The rest of a slice. -/
theorem Row.rest {w : World} {e : TypeId} {g off n cap : Nat} {xs : List Value} (h : Row w e 1 (.slice (some ⟨g, off, none⟩) n cap) xs) (k : Nat) (hk : k ≤ n) (hne : k < cap) : Row w e 1 (.slice (some ⟨g, off + k, none⟩) (n - k) (cap - k)) (xs.drop k) := by
  rcases h with ⟨h, _⟩ | ⟨g', off', n', cap', cur, hv, hg, h1, h2, h3, h4, h5⟩
  · simp at h
  · simp only [Value.slice.injEq, Option.some.injEq, Addr.mk.injEq] at hv
    obtain ⟨⟨rfl, rfl, _⟩, rfl, rfl⟩ := hv
    refine .inr ⟨g, off + k, n - k, cap - k, cur, rfl, hg, by omega, by omega, by omega, by simp; omega, fun j hj => ?_⟩
    rw [List.getElem?_drop, Nat.add_assoc]
    exact h5 (k + j) (by omega)

theorem Row.empty {w : World} {e : TypeId} {g off n cap : Nat} {xs : List Value} (h : Row w e 1 (.slice (some ⟨g, off, none⟩) n cap) xs) : Row w e 1 (.slice (some ⟨g, off, none⟩) 0 0) [] := by
  rcases h with ⟨h, _⟩ | ⟨g', off', n', cap', cur, hv, hg, h1, h2, h3, h4, h5⟩
  · simp at h
  · simp only [Value.slice.injEq, Option.some.injEq, Addr.mk.injEq] at hv
    obtain ⟨⟨rfl, rfl, _⟩, rfl, rfl⟩ := hv
    exact .inr ⟨g, off, 0, 0, cur, rfl, hg, Nat.le_refl _, by omega, by omega, rfl, fun j hj => by simp at hj⟩

theorem unfN_pos (L : List UInt8) (h1 : unfShort L = false) (h2 : unfOk L = true) : unfN L = (((L.getD 0 0).toNat + 3 : Nat) : Int) ∧ (L.getD 0 0).toNat + 3 ≤ L.length := by
  refine ⟨by rw [unfN, h1, h2]; rfl, ?_⟩
  have := of_decide_eq_false h1
  omega
theorem unfE_ok (L : List UInt8) (h : unfE L = 0) : unfShort L = true ∨ unfShort L = false ∧ unfOk L = true := by
  unfold unfE at h
  cases h1 : unfShort L with
  | true => exact .inl rfl
  | false =>
    cases h2 : unfOk L with
    | true => exact .inr ⟨rfl, rfl⟩
    | false => simp [h1, h2] at h
theorem unf_short (L : List UInt8) (h : unfShort L = true) : unfV L = itemNone ∧ unfN L = 0 ∧ unfE L = 0 := ⟨by rw [unfV, h]; rfl, by rw [unfN, h]; rfl, by rw [unfE, h]; rfl⟩
theorem unf_bad (L : List UInt8) (h : unfShort L = false) (h2 : unfOk L = false) : unfV L = itemNone ∧ unfN L = 0 ∧ unfE L = 2 := ⟨by rw [unfV, h, h2]; rfl, by rw [unfN, h, h2]; rfl, by rw [unfE, h, h2]; rfl⟩

set_option maxRecDepth 20000 in
set_option maxHeartbeats 3200000 in
/-- read, over what do and breakOff make. J W L: all ahead of L has been done. -/
theorem read_of (g o : Nat) (v0 bv : Value) (l0 l : List UInt8) (w : World) (Q : World → Prop) (J : World → List UInt8 → Prop)
    (c1 : w.cell? ⟨g, o + 1, none⟩ = some (.bool false)) (c2 : w.cell? ⟨g, o + 2, none⟩ = some v0) (hr0 : Row w 5 1 v0 (l0.map byteV)) (hrb : Row w 5 1 bv (l.map byteV)) (hlen : l0.length + l.length ≤ 140737488355328)
    (hJ0 : J w (l0 ++ l)) (hJb : ∀ W W' L, J W L → Below W.heap.size W W' → J W' L)
    (hJd : ∀ W L, J W L → unfShort L = false → unfOk L = true → L.length ≤ l0.length + l.length → Calls Try.prog 27 #[.pointer (some ⟨g, 0, none⟩), .pointer (some ⟨g, o, none⟩), unfV L] W fun e W' => e = .returned (.tuple #[]) ∧ J W' (L.drop ((L.getD 0 0).toNat + 3)) ∧ Bytes8 W W')
    (hJx : ∀ W L, J W L → unfShort L = false → unfOk L = false → Calls Try.prog 26 #[.pointer (some ⟨g, 0, none⟩), .pointer (some ⟨g, o, none⟩)] W fun e W' => e = .returned (.tuple #[]) ∧ Q W')
    (hJe : ∀ W L v, J W L → unfShort L = true → Row W 5 1 v (L.map byteV) → (L = [] → v = .slice none 0 0) → (∃ u, W.cell? ⟨g, o + 2, none⟩ = some u) ∧ W.frozen? ⟨g, o + 2, none⟩ = false ∧ Q (W.setCell ⟨g, o + 2, none⟩ v)) :
    Calls Try.prog 17 #[.pointer (some ⟨g, 0, none⟩), .pointer (some ⟨g, o, none⟩), bv] w fun e w' => e = .returned (.tuple #[]) ∧ Q w' := by
  obtain ⟨i5, hi, hz0, hz1, hz2⟩ := info_parts info5
  have HJ0 : Hid (J w (l0 ++ l)) := hJ0
  have HJb : Hid (∀ W W' L, J W L → Below W.heap.size W W' → J W' L) := hJb
  have HJd : Hid (∀ W L, J W L → unfShort L = false → unfOk L = true → L.length ≤ l0.length + l.length → Calls Try.prog 27 #[.pointer (some ⟨g, 0, none⟩), .pointer (some ⟨g, o, none⟩), unfV L] W fun e W' => e = .returned (.tuple #[]) ∧ J W' (L.drop ((L.getD 0 0).toNat + 3)) ∧ Bytes8 W W') := hJd
  have HJx : Hid (∀ W L, J W L → unfShort L = false → unfOk L = false → Calls Try.prog 26 #[.pointer (some ⟨g, 0, none⟩), .pointer (some ⟨g, o, none⟩)] W fun e W' => e = .returned (.tuple #[]) ∧ Q W') := hJx
  have HJe : Hid (∀ W L v, J W L → unfShort L = true → Row W 5 1 v (L.map byteV) → (L = [] → v = .slice none 0 0) → (∃ u, W.cell? ⟨g, o + 2, none⟩ = some u) ∧ W.frozen? ⟨g, o + 2, none⟩ = false ∧ Q (W.setCell ⟨g, o + 2, none⟩ v)) := hJe
  have HR0 : Hid (Row w 5 1 v0 (l0.map byteV)) := hr0
  have HRb : Hid (Row w 5 1 bv (l.map byteV)) := hrb
  obtain ⟨a0, k0, hv0, hk0⟩ := hr0.slice
  obtain ⟨ab, kb, hvb, hkb⟩ := hrb.slice
  rw [List.length_map] at hv0 hvb hk0 hkb
  subst hv0 hvb
  clear hJ0 hJb hJd hJx hJe hr0 hrb
  go_enter Try.func17, Try.ntmps17
  go_wp2_with fail
  refine (concat_two w.heap.size (.slice a0 l0.length k0) (.slice ab l.length kb) l0 l _ (by simp) (by simp) (by simp) (HR0.out.alloc _) (HRb.out.alloc _) hlen).mono ?_
  rintro e W0 ⟨vL, rfl, hrL, hgL, hbL⟩
  have HRL : Hid (Row W0 5 1 vL ((l0 ++ l).map byteV)) := hrL
  have HJL : Hid (J W0 (l0 ++ l)) := HJb.out w W0 _ HJ0.out (((Below.refl _ w).alloc (Nat.le_refl _) _).trans (hbL.mono (by simp)))
  clear hrL hgL hbL c1 c2
  go_wp2
  go_loopw [6] (fun lv wr => ∃ L : List UInt8, Row wr 5 1 lv (L.map byteV) ∧ J wr L ∧ L.length ≤ l0.length + l.length) (fun lv _ => lenV lv)
  case atStart => exact ⟨l0 ++ l, HRL.out, HJL.out, by simp⟩
  case round =>
    obtain ⟨L, hrow, hJ, hLl⟩ := hrel
    have HRow : Hid (Row wr 5 1 u6 (L.map byteV)) := hrow
    have HJ : Hid (J wr L) := hJ
    have HU := unframe_row u6 L wr hrow (by omega)
    clear hrow hJ
    cases hsh : unfShort L with
    | true =>
      obtain ⟨e1, e2, e3⟩ := unf_short L hsh
      rw [e1, e2, e3] at HU
      unfold itemNone at HU
      clear e1 e2 e3
      go_wp2_with fail
      refine HU.mono ?_
      rintro e W1 ⟨rfl, hb⟩
      have HJ1 : Hid (J (W1.alloc (.cells #[.int .i64 0, .string ⟨#[]⟩, .int .i64 0, .int .i64 0, .int .u32 0] 69)) L) := HJb.out _ _ _ HJ.out (hb.trans ((Below.refl _ W1).alloc (Nat.le_refl _) _ |>.mono hb.size))
      have HR1 : Hid (Row (W1.alloc (.cells #[.int .i64 0, .string ⟨#[]⟩, .int .i64 0, .int .i64 0, .int .u32 0] 69)) 5 1 u6 (L.map byteV)) := (HRow.out.bytes8 (Bytes8.ofBelow hb)).alloc _
      clear hb HU
      have S1 : Src Try.prog 1 32 u6 L.length (L.map byteV) (W1.alloc (.cells #[.int .i64 0, .string ⟨#[]⟩, .int .i64 0, .int .i64 0, .int .u32 0] 69)) := by
        have := Row.src (P := Try.prog) _ HR1.out (oneCell_bytes L) Try.underlying32
        rw [List.length_map] at this; exact this
      go_wp2_with (at_builtin; go_must (refine wpList_append_any _ rfl _ _ _ _ rfl 5 i5 (.int .u8 0) 1 1 Try.underlying32 hi hz0 hz1 hz2 rfl Nat.one_pos (.slice none 0 0) [] rfl (Row.nil _ _ _) u6 L.length (L.map byteV) rfl S1 ?h63 ?hby ?next))
      case h63 => simp only [maxLen, List.length_nil]; omega
      case hby => simp only [List.length_nil]; omega
      intro v3 W3 ha hnil
      have hb3 := ha.below (B := (W1.alloc (.cells #[.int .i64 0, .string ⟨#[]⟩, .int .i64 0, .int .i64 0, .int .u32 0] 69)).heap.size) (by intro g hg; simp [Value.ownBlock] at hg) (Nat.le_refl _)
      have hr3 := ha.row
      rw [List.nil_append] at hr3
      obtain ⟨⟨u, hu⟩, hfz, hQ⟩ := HJe.out W3 L v3 (HJb.out _ _ _ HJ1.out hb3) hsh hr3 (fun hL => hnil (by simp [hL]))
      obtain ⟨a3, k3, hv3, -⟩ := hr3.slice
      subst hv3
      have HQ : Hid (Q (W3.setCell ⟨g, o + 2, none⟩ (.slice a3 (L.map byteV).length k3))) := hQ
      clear ha hb3 hr3 hQ S1 hnil
      go_wp2
      go_end0
      have hQ := HQ.out
      rw [List.length_map] at hQ
      exact ⟨rfl, hQ⟩
    | false =>
      cases hok : unfOk L with
      | false =>
        obtain ⟨e1, e2, e3⟩ := unf_bad L hsh hok
        rw [e1, e2, e3] at HU
        unfold itemNone at HU
        clear e1 e2 e3
        go_wp2_with fail
        refine HU.mono ?_
        rintro e W1 ⟨rfl, hb⟩
        have HJ1 : Hid (J (W1.alloc (.cells #[.int .i64 0, .string ⟨#[]⟩, .int .i64 0, .int .i64 0, .int .u32 0] 69)) L) := HJb.out _ _ _ HJ.out (hb.trans ((Below.refl _ W1).alloc (Nat.le_refl _) _ |>.mono hb.size))
        clear hb HU
        go_wp2_with fail
        refine (HJx.out _ _ HJ1.out hsh hok).mono ?_
        rintro e W3 ⟨rfl, hQ⟩
        go_wp2
        refine bodyPost_ret (results_none rfl _ _ _) rfl ?_
        exact ⟨rfl, hQ⟩
      | true =>
        obtain ⟨hn, hnl⟩ := unfN_pos L hsh hok
        have hE : unfE L = 0 := by rw [unfE, hsh, hok]; rfl
        obtain ⟨ik, key, it, iv, itg, hV⟩ := unfV_cells L
        rw [hn, hE, hV] at HU
        have HD := HJd.out
        have HV : Hid (unfV L = .agg #[.int .i64 ik, .string key, .int .i64 it, .int .i64 iv, .int .u32 itg]) := hV
        obtain ⟨gL, oL, nL, cL, hu6, hnL, hcL⟩ := HRow.out.shape (by intro hh; have := congrArg List.length hh; simp at this; subst this; simp at hnl)
        rw [List.length_map, Nat.mul_one] at hnL
        subst hnL
        subst hu6
        generalize hN : (L.getD 0 0).toNat + 3 = N at *
        have hN3 : 3 ≤ N := by omega
        have HN : Hid ((L.getD 0 0).toNat + 3 = N) := hN
        clear hN hn hE hV
        go_wp2_with fail
        refine HU.mono ?_
        rintro e W1 ⟨rfl, hb⟩
        have HJ1 : Hid (J (W1.alloc (.cells #[.int .i64 ik, .string key, .int .i64 it, .int .i64 iv, .int .u32 itg] 69)) L) := HJb.out _ _ _ HJ.out (hb.trans ((Below.refl _ W1).alloc (Nat.le_refl _) _ |>.mono hb.size))
        have HR1 : Hid (Row (W1.alloc (.cells #[.int .i64 ik, .string key, .int .i64 it, .int .i64 iv, .int .u32 itg] 69)) 5 1 (.slice (some ⟨gL, oL, none⟩) L.length cL) (L.map byteV)) := (HRow.out.bytes8 (Bytes8.ofBelow hb)).alloc _
        have HD1 := HD _ L HJ1.out hsh hok hLl
        rw [HV.out, HN.out] at HD1
        clear hb HU HD
        go_wp2_with fail
        refine HD1.mono ?_
        rintro e W3 ⟨rfl, hJ3, hB3⟩
        have HJ3 : Hid (J W3 (L.drop N)) := hJ3
        have HR3 : Hid (Row W3 5 1 (.slice (some ⟨gL, oL, none⟩) L.length cL) (L.map byteV)) := HR1.out.bytes8 hB3
        clear hJ3 hB3 HD1
        by_cases hNc : N < cL
        · have hNc' : ¬ cL = N := by omega
          go_wp2
          go_roundw
          case rel =>
            refine ⟨L.drop N, ?_, HJ3.out, by rw [List.length_drop]; omega⟩
            rw [List.map_drop]
            exact HR3.out.rest N hnl hNc
          case measure => simp [lenV]; omega
        · have hNc' : cL = N := by omega
          subst hNc'
          go_wp2
          go_roundw
          case rel =>
            refine ⟨L.drop cL, ?_, HJ3.out, by rw [List.length_drop]; omega⟩
            rw [List.drop_of_length_le (by omega)]
            exact HR3.out.empty
          case measure => simp [lenV]; omega
end Go.Proofs.Ytcfngdnmpogaoaa
