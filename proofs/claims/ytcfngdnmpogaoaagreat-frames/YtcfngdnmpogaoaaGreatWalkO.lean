import Derived.Test.YtcfngdnmpogaoaaGreatWalkN
namespace Go.Proofs.YtcfngdnmpogaoaaGreat
open Go.RowKit

theorem WInv.below {w W : World} {bw : Nat} {ps hv : Value} {hs : List HoldD} (h : WInv w bw ps hv hs) (hb : Below w.heap.size w W) : WInv W bw ps hv hs := by
  have hk := Kept.ofBelow hb (fun _ => False)
  exact ⟨(hk.block bw (Array.getElem?_eq_some_iff.1 h.blk).1 id).trans h.blk, h.row.kept hk (fun _ _ => id), fun d hd => (h.holds d hd).kept hk id (fun _ _ => id) (fun _ _ => id) (fun _ _ => id)⟩

set_option maxHeartbeats 1600000 in
theorem looks_any (bw : Nat) (ps hv : Value) (hs : List HoldD) (w : World) (h : WInv w bw ps hv hs) (hl : hs.length ≤ 9223372036854775807) :
    Calls Tryz.prog 33 #[.pointer (some ⟨bw, 0, none⟩)] w fun e w' => e = .returned (.bool true) ∧ Below w.heap.size w w' := by
  obtain ⟨ah, ch, hvh, -⟩ := h.row.len (by decide)
  rw [List.length_map, Nat.div_one] at hvh
  subst hvh
  have H : Hid (WInv w bw ps (.slice ah hs.length ch) hs) := h
  clear h
  go_enter Tryz.func33, Tryz.ntmps33
  go_wp2
  go_loopw [3] (fun i wr => ∃ k : Nat, k ≤ hs.length ∧ i = .int .i64 (k : Int) ∧ Below w.heap.size w wr) (fun i _ => hs.length - (intOf i).toNat)
  case atStart => exact ⟨0, Nat.zero_le _, rfl, Below.refl _ _⟩
  case round =>
    obtain ⟨k, hk, rfl, hbw⟩ := hrel
    have hinv := H.out.below hbw
    obtain ⟨c0, c1, fw, hbw1⟩ := world_cells hinv.blk
    have Hbw : Hid (Below w.heap.size w wr) := hbw
    clear hbw
    by_cases hkn : k < hs.length
    · obtain ⟨g, off, rfl⟩ := slice_some hinv.row (by omega)
      have hcell := hinv.row.cell k (by omega)
      rw [List.getElem?_map, List.getElem?_eq_getElem hkn, Option.map_some] at hcell
      have hd := hinv.holds hs[k] (List.getElem_mem hkn)
      have Hd : Hid (Hold wr hs[k]) := hd
      clear hd hinv
      generalize hs[k] = d at *
      go_wp2_with fail
      refine (marked_any d wr Hd.out).mono ?_
      rintro e w' ⟨rfl, hb'⟩
      go_wp2
      go_roundw
      case rel => exact ⟨k + 1, by omega, by go_num, Hbw.out.trans (hb'.mono Hbw.out.size)⟩
      case measure => simp [intOf]; omega
    · clear hinv
      go_wp2
      go_ret
      exact ⟨rfl, Hbw.out⟩

end Go.Proofs.YtcfngdnmpogaoaaGreat
