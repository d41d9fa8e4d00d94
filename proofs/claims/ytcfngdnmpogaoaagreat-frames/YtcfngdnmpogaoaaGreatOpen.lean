import Derived.Test.YtcfngdnmpogaoaaGreatWalkE
import Derived.Test.YtcfngdnmpogaoaaGreatRows
import Derived.ProofKit
import Derived.SizedLaws
import Derived.OpenShut
import Derived.Deep.Slices
namespace Go.Proofs.YtcfngdnmpogaoaaGreat
open Go.RowKit Go.ChangeShapes Go.WideShapes Go.ChangeAt

theorem cells3 : Tryz.prog.cellsOf 3 = 1 := by kernel_rfl
theorem cells2 : Tryz.prog.cellsOf 2 = 1 := by kernel_rfl
theorem cells9 : Tryz.prog.cellsOf 9 = 1 := by kernel_rfl
theorem cells42 : Tryz.prog.cellsOf 26 = 1 := by kernel_rfl
theorem cells44 : Tryz.prog.cellsOf 28 = 5 := by kernel_rfl
theorem cells28 : Tryz.prog.cellsOf 42 = 4 := by kernel_rfl
theorem cells48 : Tryz.prog.cellsOf 79 = 13 := by kernel_rfl
theorem bytes48 : Tryz.prog.bytesOf 79 = 120 := by kernel_rfl

theorem list5 {α : Type} {l : List α} (h : l.length = 5) : ∃ a b c d e, l = [a, b, c, d, e] := by
  match l, h with
  | [a, b, c, d, e], _ => exact ⟨a, b, c, d, e, rfl⟩
theorem list4 {α : Type} {l : List α} (h : l.length = 4) : ∃ a b c d, l = [a, b, c, d] := by
  match l, h with
  | [a, b, c, d], _ => exact ⟨a, b, c, d, rfl⟩
theorem list13 {α : Type} {l : List α} (h : l.length = 13) : ∃ a b c d e f g i j k m n p, l = [a, b, c, d, e, f, g, i, j, k, m, n, p] := by
  match l, h with
  | [a, b, c, d, e, f, g, i, j, k, m, n, p], _ => exact ⟨a, b, c, d, e, f, g, i, j, k, m, n, p, rfl⟩

section
variable {H : Type} {enc : TypeId × Value → H} {w : World} {base : Nat} {spare : Nat → Bool} {held : Bool}

theorem open_item {fuel : Nat} {cs : List Value} {x : DataW H × List MemPlace} (h : DataW.trod enc Tryz.prog w base spare held fuel 28 cs = some x) :
    ∃ (k : Int) (key : ByteArray) (t v : Int) (tag : Nat), cs = [.int .i64 k, .string key, .int .i64 t, .int .i64 v, .int .u32 (tag : Int)] ∧ key.size ≤ maxLen ∧ tag < 4294967296 := by
  obtain ⟨xs, n, _, rfl, hl, hlen, hf⟩ := DataW.trod_struct Tryz.underlying28 h
  rw [cells44] at hl
  obtain ⟨a, b, c, d, e, rfl⟩ := list5 hl
  have e0 := hf 0 ⟨ "Kind", 3, 0, false, "", "", 0⟩ rfl
  have e1 := hf 1 ⟨ "Key", 9, 1, false, "", "", 8⟩ rfl
  have e2 := hf 2 ⟨ "Time", 2, 2, false, "", "", 24⟩ rfl
  have e3 := hf 3 ⟨ "Value", 2, 3, false, "", "", 32⟩ rfl
  have e4 := hf 4 ⟨ "Tag", 26, 4, false, "", "", 40⟩ rfl
  simp only [cells3, cells9, cells2, cells42, List.drop_zero, List.drop_succ_cons, List.take_succ_cons, List.take_zero] at e0 e1 e2 e3 e4
  obtain ⟨y0, y1, y2, y3, y4, rfl⟩ := list5 (l := xs) (by rw [hlen]; rfl)
  try simp only [List.getElem?_cons_zero, List.getElem?_cons_succ] at e0 e1 e2 e3 e4
  obtain ⟨k, hk, _, _⟩ := DataW.trod_int Tryz.underlying3 e0
  obtain ⟨key, hkey, _, hks⟩ := DataW.trod_string Tryz.underlying9 e1
  obtain ⟨t, ht, _, _⟩ := DataW.trod_int Tryz.underlying2 e2
  obtain ⟨v, hv, _, _⟩ := DataW.trod_int Tryz.underlying2 e3
  obtain ⟨tag, htag, _, hwf⟩ := DataW.trod_int Tryz.underlying26 e4
  have hb := bounds_u32 hwf
  obtain ⟨tg, rfl⟩ := Int.eq_ofNat_of_zero_le hb.1
  simp only [List.cons.injEq, and_true] at hk hkey ht hv htag
  subst hk hkey ht hv htag
  exact ⟨k, key, t, v, tg, rfl, hks, by omega⟩

theorem open_config {fuel : Nat} {cs : List Value} {x : DataW H × List MemPlace} (h : DataW.trod enc Tryz.prog w base spare held fuel 42 cs = some x) :
    ∃ (a b c d : Int), cs = [.int .i64 a, .int .i64 b, .int .i64 c, .int .i64 d] := by
  obtain ⟨xs, n, _, rfl, hl, hlen, hf⟩ := DataW.trod_struct Tryz.underlying42 h
  rw [cells28] at hl
  obtain ⟨a, b, c, d, rfl⟩ := list4 hl
  have e0 := hf 0 ⟨ "Size", 2, 0, false, "", "", 0⟩ rfl
  have e1 := hf 1 ⟨ "Slide", 2, 1, false, "", "", 8⟩ rfl
  have e2 := hf 2 ⟨ "Late", 2, 2, false, "", "", 16⟩ rfl
  have e3 := hf 3 ⟨ "Keys", 3, 3, false, "", "", 24⟩ rfl
  simp only [cells3, cells2, List.drop_zero, List.drop_succ_cons, List.take_succ_cons, List.take_zero] at e0 e1 e2 e3
  obtain ⟨y0, y1, y2, y3, rfl⟩ := list4 (l := xs) (by rw [hlen]; rfl)
  try simp only [List.getElem?_cons_zero, List.getElem?_cons_succ] at e0 e1 e2 e3
  obtain ⟨k0, hk0, _, _⟩ := DataW.trod_int Tryz.underlying2 e0
  obtain ⟨k1, hk1, _, _⟩ := DataW.trod_int Tryz.underlying2 e1
  obtain ⟨k2, hk2, _, _⟩ := DataW.trod_int Tryz.underlying2 e2
  obtain ⟨k3, hk3, _, _⟩ := DataW.trod_int Tryz.underlying3 e3
  simp only [List.cons.injEq, and_true] at hk0 hk1 hk2 hk3
  subst hk0 hk1 hk2 hk3
  exact ⟨k0, k1, k2, k3, rfl⟩

theorem open_op {fuel : Nat} {cs : List Value} {x : DataW H × List MemPlace} (h : DataW.trod enc Tryz.prog w base spare held fuel 79 cs = some x) :
    ∃ o : OpD, cs = o.cells.toList ∧ o.ikey.size ≤ maxLen ∧ o.itag < 4294967296 ∧ o.s.data.toList.length ∈ x.1.weights Tryz.prog 79 := by
  obtain ⟨xs, n, _, rfl, hl, hlen, hf⟩ := DataW.trod_struct Tryz.underlying79 h
  rw [cells48] at hl
  obtain ⟨c0, c1, c2, c3, c4, c5, c6, c7, c8, c9, c10, c11, c12, rfl⟩ := list13 hl
  have e0 := hf 0 ⟨ "Kind", 3, 0, false, "", "", 0⟩ rfl
  have e1 := hf 1 ⟨ "N", 3, 1, false, "", "", 8⟩ rfl
  have e2 := hf 2 ⟨ "Source", 3, 2, false, "", "", 16⟩ rfl
  have e3 := hf 3 ⟨ "S", 9, 3, false, "", "", 24⟩ rfl
  have e4 := hf 4 ⟨ "I", 28, 4, false, "", "", 40⟩ rfl
  have e5 := hf 5 ⟨ "C", 42, 9, false, "", "", 88⟩ rfl
  simp only [cells3, cells9, cells44, cells28, List.drop_zero, List.drop_succ_cons, List.take_succ_cons, List.take_zero] at e0 e1 e2 e3 e4 e5
  have hxl : xs.length = 6 := by rw [hlen]; rfl
  match xs, hxl with
  | [y0, y1, y2, y3, y4, y5], _ =>
    try simp only [List.getElem?_cons_zero, List.getElem?_cons_succ] at e0 e1 e2 e3 e4 e5
    obtain ⟨k0, hk0, _, _⟩ := DataW.trod_int Tryz.underlying3 e0
    obtain ⟨k1, hk1, _, _⟩ := DataW.trod_int Tryz.underlying3 e1
    obtain ⟨k2, hk2, _, _⟩ := DataW.trod_int Tryz.underlying3 e2
    obtain ⟨s, hs, hy3, hss⟩ := DataW.trod_string Tryz.underlying9 e3
    obtain ⟨ik, key, t, v, tag, hi, hks, htg⟩ := open_item e4
    obtain ⟨q0, q1, q2, q3, hc⟩ := open_config e5
    simp only [List.cons.injEq, and_true] at hk0 hk1 hk2 hs hi hc
    obtain ⟨rfl, rfl, rfl, rfl, rfl⟩ := hi
    obtain ⟨rfl, rfl, rfl, rfl⟩ := hc
    subst hk0 hk1 hk2 hs
    refine ⟨⟨k0, k1, k2, s, ik, key, t, v, tag, q0, q1, q2, q3⟩, rfl, hks, htg, ?_⟩
    subst hy3
    simp only [List.map_cons, List.map_nil, DataW.weights, Tryz.underlying79, DataW.weightsEach, List.mem_append]
    exact .inr (.inr (.inr (.inl (by simp))))
end

end Go.Proofs.YtcfngdnmpogaoaaGreat
