import Derived.Test.YtcfngdnmpogaoaaGreatWnS01
namespace Go.Proofs.YtcfngdnmpogaoaaGreat
open Go.RowKit Go.ChangeShapes Go.WideShapes Go.ChangeAt

theorem cellsEv : Tryz.prog.cellsOf 51 = 4 := by kernel_rfl
theorem cellsSh : Tryz.prog.cellsOf 39 = 4 := by kernel_rfl
section
variable {H : Type} {enc : TypeId × Value → H} {w : World} {base : Nat} {spare : Nat → Bool} {held : Bool}
theorem open_shape {fuel : Nat} {cs : List Value} {x : DataW H × List MemPlace} (h : DataW.trod enc Tryz.prog w base spare held fuel 39 cs = some x) :
    ∃ (a b c d : Int), cs = [.int .i64 a, .int .i64 b, .int .i64 c, .int .i64 d] ∧ i64B a ∧ i64B b ∧ i64B c ∧ i64B d := by
  obtain ⟨xs, n, _, rfl, hl, hlen, hf⟩ := DataW.trod_struct Tryz.underlying39 h
  rw [cellsSh] at hl
  obtain ⟨a, b, c, d, rfl⟩ := list4 hl
  have e0 := hf 0 ⟨ "Size", 3, 0, false, "", "", 0⟩ rfl
  have e1 := hf 1 ⟨ "Slide", 3, 1, false, "", "", 8⟩ rfl
  have e2 := hf 2 ⟨ "Late", 3, 2, false, "", "", 16⟩ rfl
  have e3 := hf 3 ⟨ "Keys", 3, 3, false, "", "", 24⟩ rfl
  simp only [cells3, List.drop_zero, List.drop_succ_cons, List.take_succ_cons, List.take_zero] at e0 e1 e2 e3
  obtain ⟨y0, y1, y2, y3, rfl⟩ := list4 (l := xs) (by rw [hlen]; rfl)
  try simp only [List.getElem?_cons_zero, List.getElem?_cons_succ] at e0 e1 e2 e3
  obtain ⟨k0, hk0, _, w0⟩ := DataW.trod_int Tryz.underlying3 e0
  obtain ⟨k1, hk1, _, w1⟩ := DataW.trod_int Tryz.underlying3 e1
  obtain ⟨k2, hk2, _, w2⟩ := DataW.trod_int Tryz.underlying3 e2
  obtain ⟨k3, hk3, _, w3⟩ := DataW.trod_int Tryz.underlying3 e3
  simp only [List.cons.injEq, and_true] at hk0 hk1 hk2 hk3
  subst hk0 hk1 hk2 hk3
  exact ⟨k0, k1, k2, k3, rfl, bounds_i64 w0, bounds_i64 w1, bounds_i64 w2, bounds_i64 w3⟩
theorem open_event {fuel : Nat} {cs : List Value} {x : DataW H × List MemPlace} (h : DataW.trod enc Tryz.prog w base spare held fuel 51 cs = some x) :
    ∃ e : RawE, cs = e.cells.toList ∧ e.Fits := by
  obtain ⟨xs, n, _, rfl, hl, hlen, hf⟩ := DataW.trod_struct Tryz.underlying51 h
  rw [cellsEv] at hl
  obtain ⟨a, b, c, d, rfl⟩ := list4 hl
  have e0 := hf 0 ⟨ "Key", 3, 0, false, "", "", 0⟩ rfl
  have e1 := hf 1 ⟨ "Time", 3, 1, false, "", "", 8⟩ rfl
  have e2 := hf 2 ⟨ "Value", 2, 2, false, "", "", 16⟩ rfl
  have e3 := hf 3 ⟨ "Tag", 26, 3, false, "", "", 24⟩ rfl
  simp only [cells3, cells2, cells42, List.drop_zero, List.drop_succ_cons, List.take_succ_cons, List.take_zero] at e0 e1 e2 e3
  obtain ⟨y0, y1, y2, y3, rfl⟩ := list4 (l := xs) (by rw [hlen]; rfl)
  try simp only [List.getElem?_cons_zero, List.getElem?_cons_succ] at e0 e1 e2 e3
  obtain ⟨k0, hk0, _, w0⟩ := DataW.trod_int Tryz.underlying3 e0
  obtain ⟨k1, hk1, _, w1⟩ := DataW.trod_int Tryz.underlying3 e1
  obtain ⟨k2, hk2, _, w2⟩ := DataW.trod_int Tryz.underlying2 e2
  obtain ⟨k3, hk3, _, w3⟩ := DataW.trod_int Tryz.underlying26 e3
  have hb := bounds_u32 w3
  obtain ⟨tg, rfl⟩ := Int.eq_ofNat_of_zero_le hb.1
  simp only [List.cons.injEq, and_true] at hk0 hk1 hk2 hk3
  subst hk0 hk1 hk2 hk3
  exact ⟨⟨k0, k1, k2, tg⟩, rfl, bounds_i64 w0, bounds_i64 w1, bounds_i64 w2, by show tg < _; omega⟩
end
end Go.Proofs.YtcfngdnmpogaoaaGreat
namespace Go.Proofs.YtcfngdnmpogaoaaGreat
open Go.RowKit Go.ChangeShapes Go.WideShapes Go.ChangeAt

end Go.Proofs.YtcfngdnmpogaoaaGreat
