import Derived.Test.YtcfngdnmpogaoaaWalk2
namespace Go.Proofs.Ytcfngdnmpogaoaa
open Go.RowKit

def u32of (m : Int) : Int := IntKind.u32.wrap m
def signs (m : Int) (n : Nat) : List Value := (List.range n).map fun (i : Nat) => .int .u8 (signZ m (i : Int))
def tagsOf (m : Int) (n : Nat) : List Value := List.replicate n (.int .u32 (u32of m))
def winCells (m : Int) : List Value := [.string ⟨#[]⟩, .int .i64 0, .int .i64 (wrap64 (-m)), .int .i64 0, .int .i64 0, .int .i64 0, .slice none 0 0]
def winOf (m : Int) : Nat → List Value
  | 0 => []
  | n + 1 => winCells m ++ winOf m n

theorem signs_len (m : Int) (n : Nat) : (signs m n).length = n := by simp [signs]
theorem tagsOf_len (m : Int) (n : Nat) : (tagsOf m n).length = n := by simp [tagsOf]
theorem winOf_len (m : Int) (n : Nat) : (winOf m n).length = n * 7 := by
  induction n with
  | zero => rfl
  | succ n ih => simp only [winOf, List.length_append, ih, winCells, List.length_cons, List.length_nil]; omega
theorem signs_get (m : Int) (n j : Nat) (h : j < n) : (signs m n)[j]? = some (.int .u8 (signZ m (j : Int))) := by simp [signs, h]
theorem tagsOf_get (m : Int) (n j : Nat) (h : j < n) : (tagsOf m n)[j]? = some (.int .u32 (u32of m)) := by simp [tagsOf, h]
theorem winOf_get (m : Int) (n j i : Nat) (h : j < n) (hi : i < 7) : (winOf m n)[j * 7 + i]? = (winCells m)[i]? := by
  induction n generalizing j with
  | zero => omega
  | succ n ih =>
    have hl : (winCells m).length = 7 := rfl
    cases j with
    | zero => rw [winOf, List.getElem?_append_left (by omega)]; congr 1; omega
    | succ j =>
      rw [winOf, List.getElem?_append_right (by omega), hl, show (j + 1) * 7 + i - 7 = j * 7 + i from by omega]
      exact ih j (by omega)
theorem signs_snoc (m : Int) (n : Nat) : signs m (n + 1) = signs m n ++ [.int .u8 (signZ m (n : Int))] := by simp [signs, List.range_succ]
theorem tagsOf_snoc (m : Int) (n : Nat) : tagsOf m (n + 1) = tagsOf m n ++ [.int .u32 (u32of m)] := by simp [tagsOf, List.replicate_succ']
theorem winOf_snoc (m : Int) (n : Nat) : winOf m (n + 1) = winOf m n ++ winCells m := by
  induction n with
  | zero => simp [winOf]
  | succ n ih =>
    show winCells m ++ winOf m (n + 1) = (winCells m ++ winOf m n) ++ winCells m
    rw [ih, List.append_assoc]

/-- A hold: where it lies, its mark, its three lists. -/
structure HoldD where
  hb : Nat
  m : Int
  nb : Nat
  nt : Nat
  nw : Nat
  vb : Value
  vt : Value
  vw : Value

theorem hold_cells {w : World} {hb : Nat} {x0 x1 x2 x3 : Value} {t : TypeId} (h : w.heap[hb]? = some (.cells #[x0, x1, x2, x3] t (0, 0))) :
    w.cell? ⟨hb, 0, none⟩ = some x0 ∧ w.cell? ⟨hb, 1, none⟩ = some x1 ∧ w.cell? ⟨hb, 2, none⟩ = some x2 ∧ w.cell? ⟨hb, 3, none⟩ = some x3 ∧ (∀ j, w.frozen? ⟨hb, j, none⟩ = false) ∧ hb < w.heap.size := by
  refine ⟨?_, ?_, ?_, ?_, fun j => frozen_of_row w _ j _ _ h, (Array.getElem?_eq_some_iff.1 h).1⟩ <;> (rw [cell_of_row w _ _ _ _ _ h]; rfl)

/-- A slice's value and its length. -/
theorem Row.len {w : World} {e : TypeId} {sz : Nat} {v : Value} {xs : List Value} (h : Row w e sz v xs) (hsz : 0 < sz) : ∃ a cap, v = .slice a (xs.length / sz) cap ∧ (∀ j, j < xs.length → ∃ g off, a = some ⟨g, off, none⟩ ∧ w.cell? ⟨g, off + j, none⟩ = xs[j]?) := by
  rcases h with ⟨rfl, rfl⟩ | ⟨g, off, n, cap, cur, rfl, hg, _, _, _, hl, hc⟩
  · exact ⟨none, 0, by simp, fun j hj => by simp at hj⟩
  · refine ⟨some ⟨g, off, none⟩, cap, by rw [hl, Nat.mul_div_cancel _ hsz], fun j hj => ⟨g, off, rfl, ?_⟩⟩
    rw [cell_of_row w _ _ cur e (0, 0) hg]
    exact hc j (by omega)

end Go.Proofs.Ytcfngdnmpogaoaa
