import Derived.Test.YtcfngdnmpogaoaaGreatWalkL
import Derived.Test.YtcfngdnmpogaoaaGreatWalkM
namespace Go.Proofs.YtcfngdnmpogaoaaGreat
open Go.RowKit

theorem Row.put {w : World} {e : TypeId} {g off n cap : Nat} {xs : List Value} (h : Row w e 1 (.slice (some ⟨g, off, none⟩) n cap) xs) (j : Nat) (hj : j < xs.length) (u : Value) : Row (w.setCell ⟨g, off + j, none⟩ u) e 1 (.slice (some ⟨g, off, none⟩) n cap) (xs.set j u) := by
  rcases h with ⟨h, _⟩ | ⟨g', off', n', cap', cur, hv, hg, r1, r2, r3, r4, r5⟩
  · simp at h
  · simp only [Value.slice.injEq, Option.some.injEq, Addr.mk.injEq] at hv
    obtain ⟨⟨rfl, rfl, _⟩, rfl, rfl⟩ := hv
    refine .inr ⟨g, off, n, cap, _, rfl, heap_setCell_same w g (off + j) cur e u hg, r1, r2, by simpa using r3, by simpa using r4, fun i hi => ?_⟩
    rw [Array.getElem?_setIfInBounds, List.getElem?_set]
    by_cases hij : j = i
    · subst hij
      rw [if_pos rfl, if_pos rfl, if_pos (by omega), if_pos hj]
    · rw [if_neg (by omega), if_neg hij]
      exact r5 i hi

theorem signs_step (m : Int) (xs : List Value) (k : Nat) (h : k < xs.length) : (signs m k ++ xs.drop k).set k (.int .u8 (signZ m (k : Int))) = signs m (k + 1) ++ xs.drop (k + 1) := by
  have hl := signs_len m k
  rw [List.set_append, if_neg (by omega), hl, Nat.sub_self, List.drop_eq_getElem_cons h, List.set_cons_zero, signs_snoc]
  simp

set_option maxRecDepth 20000 in
set_option maxHeartbeats 1600000 in
theorem marks_bytes (hb : Nat) (m : Int) (vb : Value) (xs : List Value) (w : World) (hblk : w.heap[hb]? = some (.cells #[vb, .slice none 0 0, .slice none 0 0, .int .i64 m] 135 (0, 0))) (hrow : Row w 5 1 vb xs) (hl : xs.length ≤ 9223372036854775807) :
    Calls Tryz.prog 82 #[.pointer (some ⟨hb, 0, none⟩)] w fun e w' => (∃ v, e = .returned v) ∧ Row w' 5 1 vb (signs m xs.length) ∧ Kept (fun k => vb.ownBlock = some k) w w' := by
  obtain ⟨ab, cb, hvb, -⟩ := hrow.len (by decide)
  rw [Nat.div_one] at hvb
  subst hvb
  have hlt := (hold_cells hblk).2.2.2.2.2
  generalize hn : xs.length = n at *
  have Hn : Hid (xs.length = n) := hn
  clear hn
  have HR : Hid (Row w 5 1 (.slice ab n cb) xs) := hrow
  have HB : Hid (w.heap[hb]? = some (.cells #[.slice ab n cb, .slice none 0 0, .slice none 0 0, .int .i64 m] 135 (0, 0))) := hblk
  have HC : Hid (∀ wr, Kept (fun k => (Value.slice ab n cb).ownBlock = some k) w wr → wr.heap[hb]? = some (.cells #[.slice ab n cb, .slice none 0 0, .slice none 0 0, .int .i64 m] 135 (0, 0))) := fun wr hk =>
    (hk.block hb hlt (HR.out.ne_block HB.out (by decide))).trans HB.out
  clear hrow hblk
  go_enter Tryz.func82, Tryz.ntmps82
  go_wp2
  go_loopw [2] (fun i wr => ∃ k : Nat, k ≤ n ∧ i = .int .i64 (k : Int) ∧ Row wr 5 1 (.slice ab n cb) (signs m k ++ xs.drop k) ∧ Kept (fun k => (Value.slice ab n cb).ownBlock = some k) w wr) (fun i _ => n - (intOf i).toNat)
  case atStart => exact ⟨0, Nat.zero_le _, rfl, by simpa [signs] using HR.out, Kept.refl _ _⟩
  case round =>
    obtain ⟨k, hk, rfl, hr, hkp⟩ := hrel
    have hblk := HC.out _ hkp
    obtain ⟨c0, c1, c2, c3, fz, hltr⟩ := hold_cells hblk
    have Hr : Hid (Row wr 5 1 (.slice ab n cb) (signs m k ++ xs.drop k)) := hr
    have Hkp : Hid (Kept (fun k => (Value.slice ab n cb).ownBlock = some k) w wr) := hkp
    by_cases hkn : k < n
    · obtain ⟨g, off, rfl⟩ := slice_some hr (by omega)
      have hne := hr.ne_block hblk (by decide)
      have hgh : ¬ g = hb := fun h => hne (by rw [h]; rfl)
      have hgh' : ¬ hb = g := fun h => hgh h.symm
      have hxl : (signs m k ++ xs.drop k).length = n := by rw [List.length_append, signs_len, List.length_drop, Hn.out]; omega
      have hcell := hr.cell k (by omega)
      obtain ⟨old, ho⟩ : ∃ old, (signs m k ++ xs.drop k)[k]? = some old := ⟨_, List.getElem?_eq_getElem (by omega)⟩
      rw [ho] at hcell
      have hfz := hr.frozen (off + k)
      clear hr hkp hblk hne ho
      go_wp2
      go_region_held3 (fun W => W.cell? ⟨hb, 0, none⟩ = some (.slice (some ⟨g, off, none⟩) n cb) ∧ W.cell? ⟨hb, 3, none⟩ = some (.int .i64 m)) (go_keep) (first | (go_at_call 86; refine (sign_any _ _ _).mono ?_; rintro e w' ⟨rfl, rfl⟩))
      go_wp2
      go_roundw
      case rel =>
        refine ⟨k + 1, by omega, by go_num, ?_, (Hkp.out.setCell ⟨g, off + k, none⟩ _ (fun _ => rfl)).drew⟩
        have := Hr.out.put k (by omega) (.int .u8 (signZ m (k : Int)))
        rw [signs_step m xs k (by rw [Hn.out]; exact hkn)] at this
        exact this
      case measure => simp [intOf]; omega
    · clear hr hkp hblk
      have hkn' : k = n := by omega
      subst hkn'
      go_wp2
      refine wp_loop_rounds 1 ?_
      rw [rounds_succ]
      go_wp2
      refine wp_loop_rounds 1 ?_
      rw [rounds_succ]
      go_wp2
      go_end0
      refine ⟨⟨_, rfl⟩, ?_, Hkp.out⟩
      have := Hr.out
      rw [List.drop_of_length_le (by rw [Hn.out]; exact Nat.le_refl _), List.append_nil] at this
      exact this

end Go.Proofs.YtcfngdnmpogaoaaGreat
