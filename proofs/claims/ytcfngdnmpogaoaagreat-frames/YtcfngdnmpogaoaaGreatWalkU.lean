import Derived.Test.YtcfngdnmpogaoaaGreatWalkR
namespace Go.Proofs.YtcfngdnmpogaoaaGreat
open Go.RowKit

theorem free_any (bw : Nat) (ps hv : Value) (hs : List HoldD) (o : OpD) (w : World) (h : WInv w bw ps hv hs) (hf : o.Fits) (hk : o.kind = 1 ∨ o.kind = 2) (hl : hs.length + 4 ≤ 17592186044416) :
    Calls Tryz.prog 53 #[.pointer (some ⟨bw, 0, none⟩), .agg o.cells] w (StepPost bw ps hv hs w) := by
  rcases hk with hk | hk
  · cases hi : isItemB o.ik o.ikey o.ivalue o.itag with
    | false => exact free_frame_no bw ps hv hs o w h hf hk hl hi
    | true => exact free_frame_yes bw ps hv hs o w h hf hk hl hi
  · exact free_unframe bw ps hv hs o w h hf hk hl

set_option maxRecDepth 20000 in
set_option maxHeartbeats 1600000 in
theorem step_any (bw : Nat) (ps hv : Value) (hs : List HoldD) (o : OpD) (w : World) (h : WInv w bw ps hv hs) (hf : o.Fits) (hk : o.kind = 1 ∨ o.kind = 2) (hl : hs.length + 4 ≤ 17592186044416) :
    Calls Tryz.prog 32 #[.pointer (some ⟨bw, 0, none⟩), .agg o.cells] w (StepPost bw ps hv hs w) := by
  have H : Hid (WInv w bw ps hv hs) := h
  have hk1 : (1 : Int) ≤ o.kind := by omega
  have hk3 : o.kind ≤ 3 := by omega
  have HF : Hid (∀ W, WInv W bw ps hv hs → Calls Tryz.prog 53 #[.pointer (some ⟨bw, 0, none⟩), .agg o.cells] W (StepPost bw ps hv hs W)) := fun W hW => free_any bw ps hv hs o W hW hf hk hl
  clear h hf hk
  obtain ⟨kind, n, source, s, ik, ikey, itime, ivalue, itag, q0, q1, q2, q3⟩ := o
  simp only [OpD.cells] at *
  go_enter Tryz.func32, Tryz.ntmps32
  go_wp2_with fail
  refine (HF.out _ (H.out.below ((Below.refl _ w).alloc (Nat.le_refl _) _))).mono ?_
  rintro e W ⟨rfl, hs', hv', h4, hW, hkW, hq⟩
  go_wp2
  go_ret
  refine ⟨rfl, hs', hv', h4, hW, ((Kept.refl _ w).alloc _).step hkW (fun i _ e => e), fun k hk => (hq k hk).imp id (fun h => by simp at h; omega)⟩

/-- A script in memory: n steps, 13 cells each. -/
def Script (w : World) (b off : Nat) (ops : List OpD) : Prop := ∀ i (h : i < ops.length) j, j < 13 → w.cell? ⟨b, off + (i * 13 + j), none⟩ = (ops[i]).cells[j]?

theorem Script.kept {X : Nat → Prop} {w W : World} {b off : Nat} {ops : List OpD} (h : Script w b off ops) (hk : Kept X w W) (hb : b < w.heap.size) (hx : ¬ X b) : Script W b off ops := fun i hi j hj => by
  have := World.cell?_of_block (w := w) (w' := W) (a := ⟨b, off + (i * 13 + j), none⟩) (hk.block b hb hx)
  rw [this]; exact h i hi j hj

set_option maxRecDepth 20000 in
set_option maxHeartbeats 1600000 in
theorem upTo_frames (b off cap : Nat) (ops : List OpD) (w : World) (hsc : Script w b off ops) (hb : b < w.heap.size) (hf : ∀ o ∈ ops, o.Fits) (hl : ops.length ≤ 1172812402961) :
    Calls Tryz.prog 13 #[.slice (some ⟨b, off, none⟩) ops.length cap, .int .i64 1, .int .i64 2] w fun e w' => e = .returned (.int .i64 (-1)) ∧ Below w.heap.size w w' := by
  have Hsc : Hid (Script w b off ops) := hsc
  have Hf : Hid (∀ o ∈ ops, o.Fits) := hf
  clear hsc hf
  go_enter Tryz.func13, Tryz.ntmps13
  go_wp2
  go_loopw [8] (fun i wr => ∃ (k : Nat) (hs : List HoldD) (hv : Value), k ≤ ops.length ∧ i = .int .i64 (k : Int) ∧ hs.length ≤ 4 * k ∧ WInv wr w.heap.size (.slice none 0 0) hv hs ∧ (∀ j, hv.ownBlock = some j → w.heap.size ≤ j) ∧ Below w.heap.size w wr) (fun i _ => ops.length - (intOf i).toNat)
  case atStart => exact ⟨0, [], .slice none 0 0, Nat.zero_le _, rfl, by simp, ⟨heap_alloc_new w _, Row.nil _ _ _, by simp⟩, by simp [Value.ownBlock], (Below.refl _ w).alloc (Nat.le_refl _) _⟩
  case round =>
    obtain ⟨k, hs, hv, hk, rfl, hsl, hinv, hhv, hbw⟩ := hrel
    have Hinv : Hid (WInv wr w.heap.size (.slice none 0 0) hv hs) := hinv
    have Hhv : Hid (∀ j, hv.ownBlock = some j → w.heap.size ≤ j) := hhv
    have Hbw : Hid (Below w.heap.size w wr) := hbw
    clear hinv hhv hbw
    by_cases hkn : k < ops.length
    · have hcell : ∀ j, j < 13 → wr.cell? ⟨b, off + (k * 13 + j), none⟩ = (ops[k]).cells[j]? := fun j hj => by
        rw [Hbw.out.cell (by exact hb)]; exact Hsc.out k hkn j hj
      have hof := Hf.out ops[k] (List.getElem_mem hkn)
      generalize ops[k] = o at *
      have Hcell : Hid (∀ j, j < 13 → wr.cell? ⟨b, off + (k * 13 + j), none⟩ = o.cells[j]?) := hcell
      have h0 := hcell 0 (by omega)
      have h1 := hcell 1 (by omega)
      have h2 := hcell 2 (by omega)
      have h3 := hcell 3 (by omega)
      have h4 := hcell 4 (by omega)
      have h5 := hcell 5 (by omega)
      have h6 := hcell 6 (by omega)
      have h7 := hcell 7 (by omega)
      have h8 := hcell 8 (by omega)
      have h9 := hcell 9 (by omega)
      have h10 := hcell 10 (by omega)
      have h11 := hcell 11 (by omega)
      have h12 := hcell 12 (by omega)
      have HS : Hid (o.kind = 1 ∨ o.kind = 2 → Calls Tryz.prog 32 #[.pointer (some ⟨w.heap.size, 0, none⟩), .agg o.cells] wr (StepPost w.heap.size (.slice none 0 0) hv hs wr)) := fun hko => step_any _ _ _ _ o wr Hinv.out hof hko (by omega)
      clear hcell Hcell hof
      obtain ⟨kind, n, source, s, ik, ikey, itime, ivalue, itag, q0, q1, q2, q3⟩ := o
      simp only [OpD.cells, List.getElem?_toArray, List.getElem?_cons_zero, List.getElem?_cons_succ, Nat.add_zero, ← Nat.add_assoc] at h0 h1 h2 h3 h4 h5 h6 h7 h8 h9 h10 h11 h12 HS
      by_cases hk1 : kind < 1
      · clear h1 h2 h3 h4 h5 h6 h7 h8 h9 h10 h11 h12
        go_wp2
        go_roundw
        case rel => exact ⟨k + 1, hs, hv, by omega, by go_num, by omega, Hinv.out, Hhv.out, Hbw.out⟩
        case measure => simp [intOf]; omega
      · by_cases hk2 : 2 < kind
        · clear h1 h2 h3 h4 h5 h6 h7 h8 h9 h10 h11 h12
          go_wp2
          go_roundw
          case rel => exact ⟨k + 1, hs, hv, by omega, by go_num, by omega, Hinv.out, Hhv.out, Hbw.out⟩
          case measure => simp [intOf]; omega
        · have hko : Hid (kind = 1 ∨ kind = 2) := by show _ ∨ _; omega
          go_wp2_with fail
          refine (HS.out hko.out).mono ?_
          rintro e W ⟨rfl, hs', hv', h4', hW, hkW, hq⟩
          clear h0 h1 h2 h3 h4 h5 h6 h7 h8 h9 h10 h11 h12
          have hbW : Below w.heap.size w W := Hbw.out.trans (hkW.toBelow (by have := Hbw.out.size; omega) (fun j hj => by rintro (e | e); omega; (have := Hhv.out j e; omega)))
          have hsz := Hbw.out.size
          have HbW : Hid (Below w.heap.size w W) := hbW
          have HW : Hid (WInv W w.heap.size (.slice none 0 0) hv' (hs ++ hs')) := hW
          have Hq : Hid (∀ k, hv'.ownBlock = some k → w.heap.size ≤ k) := fun k hk => by
            rcases hq k hk with e | e
            · exact Hhv.out k e
            · omega
          clear hbW hW hq hkW
          go_wp2_with fail
          refine (looks_any w.heap.size _ hv' (hs ++ hs') W HW.out (by rw [List.length_append]; omega)).mono ?_
          rintro e W2 ⟨rfl, hb2⟩
          have Hb2 : Hid (Below W.heap.size W W2) := hb2
          clear hb2
          go_wp2
          go_roundw
          case rel => exact ⟨k + 1, hs ++ hs', hv', by omega, by go_num, by rw [List.length_append]; omega, HW.out.below Hb2.out, Hq.out, HbW.out.trans (Hb2.out.mono (HbW.out.size))⟩
          case measure => simp [intOf]; omega
    · go_wp2
      go_ret
      exact ⟨rfl, Hbw.out⟩

end Go.Proofs.YtcfngdnmpogaoaaGreat
