import Derived.Test.YtcfngdnmpogaoaaGreatWnS01
namespace Go.Proofs.YtcfngdnmpogaoaaGreat
open Go.RowKit Go.ChangeShapes Go.WideShapes Go.ChangeAt

theorem cellsEv : Tryz.prog.cellsOf 51 = 4 := by kernel_rfl
theorem cellsSh : Tryz.prog.cellsOf 39 = 4 := by kernel_rfl
section
variable {H : Type} {enc : TypeId × Value → H} {w : World} {base : Nat} {spare : Nat → Bool} {held : Bool}
theorem open_shape {fuel : Nat} {cs : List Value} {x : DataW H × List MemPlace} (h : DataW.trod enc Tryz.prog w base spare held fuel 39 cs = some x) :
    ∃ (a b c d : Int), cs = [.int .i64 a, .int .i64 b, .int .i64 c, .int .i64 d] ∧ i64B a ∧ i64B b ∧ i64B c ∧ i64B d := by
  obtain ⟨xs, n, _, rfl, hl, hlen, hf⟩ := DataW.trod_struct Tryz.underlying39 h
  rw [cellsSh] at hl
  obtain ⟨a, b, c, d, rfl⟩ := list4 hl
  have e0 := hf 0 ⟨ "Size", 3, 0, false, "", "", 0⟩ rfl
  have e1 := hf 1 ⟨ "Slide", 3, 1, false, "", "", 8⟩ rfl
  have e2 := hf 2 ⟨ "Late", 3, 2, false, "", "", 16⟩ rfl
  have e3 := hf 3 ⟨ "Keys", 3, 3, false, "", "", 24⟩ rfl
  simp only [cells3, List.drop_zero, List.drop_succ_cons, List.take_succ_cons, List.take_zero] at e0 e1 e2 e3
  obtain ⟨y0, y1, y2, y3, rfl⟩ := list4 (l := xs) (by rw [hlen]; rfl)
  try simp only [List.getElem?_cons_zero, List.getElem?_cons_succ] at e0 e1 e2 e3
  obtain ⟨k0, hk0, _, w0⟩ := DataW.trod_int Tryz.underlying3 e0
  obtain ⟨k1, hk1, _, w1⟩ := DataW.trod_int Tryz.underlying3 e1
  obtain ⟨k2, hk2, _, w2⟩ := DataW.trod_int Tryz.underlying3 e2
  obtain ⟨k3, hk3, _, w3⟩ := DataW.trod_int Tryz.underlying3 e3
  simp only [List.cons.injEq, and_true] at hk0 hk1 hk2 hk3
  subst hk0 hk1 hk2 hk3
  exact ⟨k0, k1, k2, k3, rfl, bounds_i64 w0, bounds_i64 w1, bounds_i64 w2, bounds_i64 w3⟩
theorem open_event {fuel : Nat} {cs : List Value} {x : DataW H × List MemPlace} (h : DataW.trod enc Tryz.prog w base spare held fuel 51 cs = some x) :
    ∃ e : RawE, cs = e.cells.toList ∧ e.Fits := by
  obtain ⟨xs, n, _, rfl, hl, hlen, hf⟩ := DataW.trod_struct Tryz.underlying51 h
  rw [cellsEv] at hl
  obtain ⟨a, b, c, d, rfl⟩ := list4 hl
  have e0 := hf 0 ⟨ "Key", 3, 0, false, "", "", 0⟩ rfl
  have e1 := hf 1 ⟨ "Time", 3, 1, false, "", "", 8⟩ rfl
  have e2 := hf 2 ⟨ "Value", 2, 2, false, "", "", 16⟩ rfl
  have e3 := hf 3 ⟨ "Tag", 26, 3, false, "", "", 24⟩ rfl
  simp only [cells3, cells2, cells42, List.drop_zero, List.drop_succ_cons, List.take_succ_cons, List.take_zero] at e0 e1 e2 e3
  obtain ⟨y0, y1, y2, y3, rfl⟩ := list4 (l := xs) (by rw [hlen]; rfl)
  try simp only [List.getElem?_cons_zero, List.getElem?_cons_succ] at e0 e1 e2 e3
  obtain ⟨k0, hk0, _, w0⟩ := DataW.trod_int Tryz.underlying3 e0
  obtain ⟨k1, hk1, _, w1⟩ := DataW.trod_int Tryz.underlying3 e1
  obtain ⟨k2, hk2, _, w2⟩ := DataW.trod_int Tryz.underlying2 e2
  obtain ⟨k3, hk3, _, w3⟩ := DataW.trod_int Tryz.underlying26 e3
  have hb := bounds_u32 w3
  obtain ⟨tg, rfl⟩ := Int.eq_ofNat_of_zero_le hb.1
  simp only [List.cons.injEq, and_true] at hk0 hk1 hk2 hk3
  subst hk0 hk1 hk2 hk3
  exact ⟨⟨k0, k1, k2, tg⟩, rfl, bounds_i64 w0, bounds_i64 w1, bounds_i64 w2, by show tg < _; omega⟩
end
end Go.Proofs.YtcfngdnmpogaoaaGreat
namespace Go.Proofs.YtcfngdnmpogaoaaGreat
open Go.RowKit Go.ChangeShapes Go.WideShapes Go.ChangeAt

theorem open_evs {H : Type} {enc : TypeId × Value → H} {W : World} {fuel : Nat} {cs : List Value} {d : DataW H} {p : List MemPlace} (h : DataW.trod enc Tryz.prog W 0 (fun _ => true) true fuel 40 cs = some (d, p))
    (hlt : ∀ x ∈ p, x.block < W.heap.size) :
    ∃ v evs, cs = [v] ∧ EvsAt W v evs ∧ (∀ e ∈ evs, e.Fits) := by
  rcases Deep.open_slice Tryz.underlying40 h with ⟨hcs, _⟩ | ⟨a, len, cap, m, n, D, Pl, hcs, _, hl, hm, hmm, hx, hel⟩
  · exact ⟨_, [], hcs, ⟨none, 0, rfl, fun i hi => absurd hi (by simp)⟩, fun e he => (by cases he)⟩
  · simp only [if_true] at hmm
    subst hmm
    simp only [Prod.mk.injEq] at hx
    obtain ⟨-, hp⟩ := hx
    rw [hp] at hlt
    rw [cellsEv] at hel
    have hall : ∀ i, ∃ e : RawE, i < len → e.Fits ∧ ∀ j, j < 4 → W.cell? ((a.add (i * 4)).add j) = e.cells[j]? := by
      intro i
      by_cases hi : i < len
      · obtain ⟨cs', h1, h2⟩ := hel i (by omega)
        obtain ⟨e, rfl, hk⟩ := open_event h2
        obtain ⟨hl4, hc⟩ := cellsN_some h1
        refine ⟨e, fun _ => ⟨hk, fun j hj => ?_⟩⟩
        rw [hc j hj]; simp
      · exact ⟨⟨0, 0, 0, 0⟩, fun hh => absurd hh hi⟩
    obtain ⟨f, hf⟩ := Classical.skolem.1 hall
    have hlen : ((List.range len).map f).length = len := by simp
    refine ⟨_, (List.range len).map f, hcs, ⟨some a, m, by rw [hlen], fun i hi => ?_⟩, fun e he => ?_⟩
    · rw [hlen] at hi
      obtain ⟨b, off, spot⟩ := a
      have hspot : spot = none := by
        have := (hf 0 (by omega)).2 0 (by omega)
        cases spot with
        | none => rfl
        | some q =>
          simp [RawE.cells, World.cell?, Addr.add] at this
          split at this <;> simp at this
      subst hspot
      refine ⟨b, off, rfl, hlt (.cell b off) (List.mem_append_left _ (MemPlace.mem_row.2 ⟨0, by rw [cellsEv]; omega, by simp⟩)), fun j hj => ?_⟩
      have := (hf i hi).2 j hj
      rw [Addr.add_lit, Addr.add_lit, Nat.add_assoc] at this
      rw [this]
      simp
    · obtain ⟨i, hi, rfl⟩ := List.mem_map.1 he
      exact (hf i (List.mem_range.1 hi)).1
end Go.Proofs.YtcfngdnmpogaoaaGreat
