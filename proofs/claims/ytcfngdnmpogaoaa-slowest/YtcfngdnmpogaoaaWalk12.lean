import Derived.Test.YtcfngdnmpogaoaaWalk11
namespace Go.Proofs.Ytcfngdnmpogaoaa
open Go.RowKit

def unfV (l : List UInt8) : Value := if unfShort l then itemNone else if unfOk l then itemOfV (unfBody l) else itemNone
def unfN (l : List UInt8) : Int := if unfShort l then 0 else if unfOk l then (((l.getD 0 0).toNat + 3 : Nat) : Int) else 0
def unfE (l : List UInt8) : Int := if unfShort l then 0 else if unfOk l then 0 else 2

theorem itemOfV_cells (body : List UInt8) : itemCells (itemOfV body) := by
  unfold itemOfV
  split
  · split
    · exact eventVal_cells _ _
    · exact markVal_cells _
  · exact itemNone_cells
theorem unfV_cells (l : List UInt8) : itemCells (unfV l) := by
  unfold unfV
  split
  · exact itemNone_cells
  · split
    · exact itemOfV_cells _
    · exact itemNone_cells

theorem unframe_any (b off cap : Nat) (l : List UInt8) (w : World) (hc : Bytes w b off l) (hl : l.length ≤ 9223372036854775807) (hcap : l.length ≤ cap) :
    Calls Try.prog 25 #[.slice (some ⟨b, off, none⟩) l.length cap] w fun e w' => e = .returned (.tuple #[unfV l, .int .i64 (unfN l), .int .i64 (unfE l)]) ∧ Below w.heap.size w w' := by
  by_cases h0 : 0 < l.length
  · by_cases hs : l.length < (l.getD 0 0).toNat + 3
    · have hsh : unfShort l = true := decide_eq_true hs
      have e1 : unfV l = itemNone := by rw [unfV, hsh]; rfl
      have e2 : unfN l = 0 := by rw [unfN, hsh]; rfl
      have e3 : unfE l = 0 := by rw [unfE, hsh]; rfl
      rw [e1, e2, e3]
      exact unframe_short b off cap l w hc h0 hl hs
    · have hsh : unfShort l = false := decide_eq_false hs
      refine (unframe_long b off cap l w hc h0 hl hcap (by omega)).mono ?_
      rintro e w' ⟨h1, h2, hb⟩
      refine ⟨?_, hb⟩
      cases hok : unfOk l with
      | true =>
        have e1 : unfV l = itemOfV (unfBody l) := by rw [unfV, hsh, hok]; rfl
        have e2 : unfN l = (((l.getD 0 0).toNat + 3 : Nat) : Int) := by rw [unfN, hsh, hok]; rfl
        have e3 : unfE l = 0 := by rw [unfE, hsh, hok]; rfl
        rw [e1, e2, e3]; exact (h1 hok).2
      | false =>
        have e1 : unfV l = itemNone := by rw [unfV, hsh, hok]; rfl
        have e2 : unfN l = 0 := by rw [unfN, hsh, hok]; rfl
        have e3 : unfE l = 2 := by rw [unfE, hsh, hok]; rfl
        rw [e1, e2, e3]; exact h2 hok
  · have hl0 : l = [] := List.eq_nil_of_length_eq_zero (by omega)
    subst hl0
    exact unframe_empty _ cap w

end Go.Proofs.Ytcfngdnmpogaoaa
