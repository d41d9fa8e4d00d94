import Derived.Test.YtcfngdnmpogaoaaGreatWalk11
namespace Go.Proofs.YtcfngdnmpogaoaaGreat
open Go.RowKit

def unfV (l : List UInt8) : Value := if unfShort l then itemNone else if unfOk l then itemOfV (unfBody l) else itemNone
def unfN (l : List UInt8) : Int := if unfShort l then 0 else if unfOk l then (((l.getD 0 0).toNat + 3 : Nat) : Int) else 0
def unfE (l : List UInt8) : Int := if unfShort l then 0 else if unfOk l then 0 else 2

theorem itemOfV_cells (body : List UInt8) : itemCells (itemOfV body) := by
  unfold itemOfV
  split
  · split
    · exact eventVal_cells _ _
    · exact markVal_cells _
  · exact itemNone_cells
theorem unfV_cells (l : List UInt8) : itemCells (unfV l) := by
  unfold unfV
  split
  · exact itemNone_cells
  · split
    · exact itemOfV_cells _
    · exact itemNone_cells

theorem unframe_any (b off cap : Nat) (l : List UInt8) (w : World) (hc : Bytes w b off l) (hl : l.length ≤ 9223372036854775807) (hcap : l.length ≤ cap) :
    Calls Tryz.prog 16 #[.slice (some ⟨b, off, none⟩) l.length cap] w fun e w' => e = .returned (.tuple #[unfV l, .int .i64 (unfN l), .int .i64 (unfE l)]) ∧ Below w.heap.size w w' := by
  by_cases h0 : 0 < l.length
  · by_cases hs : l.length < (l.getD 0 0).toNat + 3
    · have hsh : unfShort l = true := decide_eq_true hs
      have e1 : unfV l = itemNone := by rw [unfV, hsh]; rfl
      have e2 : unfN l = 0 := by rw [unfN, hsh]; rfl
      have e3 : unfE l = 0 := by rw [unfE, hsh]; rfl
      rw [e1, e2, e3]
      exact unframe_short b off cap l w hc h0 hl hs
    · have hsh : unfShort l = false := decide_eq_false hs
      refine (unframe_long b off cap l w hc h0 hl hcap (by omega)).mono ?_
      rintro e w' ⟨h1, h2, hb⟩
      refine ⟨?_, hb⟩
      cases hok : unfOk l with
      | true =>
        have e1 : unfV l = itemOfV (unfBody l) := by rw [unfV, hsh, hok]; rfl
        have e2 : unfN l = (((l.getD 0 0).toNat + 3 : Nat) : Int) := by rw [unfN, hsh, hok]; rfl
        have e3 : unfE l = 0 := by rw [unfE, hsh, hok]; rfl
        rw [e1, e2, e3]; exact (h1 hok).2
      | false =>
        have e1 : unfV l = itemNone := by rw [unfV, hsh, hok]; rfl
        have e2 : unfN l = 0 := by rw [unfN, hsh, hok]; rfl
        have e3 : unfE l = 2 := by rw [unfE, hsh, hok]; rfl
        rw [e1, e2, e3]; exact h2 hok
  · have hl0 : l = [] := List.eq_nil_of_length_eq_zero (by omega)
    subst hl0
    exact unframe_empty _ cap w

theorem runframe_any (s : ByteArray) (w : World) (hl : s.size ≤ 9223372036854775807) :
    Calls Tryz.prog 78 #[.string s] w fun e w' => e = .returned (.tuple #[unfV s.data.toList, .int .i64 (unfN s.data.toList), .int .i64 (unfE s.data.toList)]) ∧ Below w.heap.size w w' := by
  have hkl := keyLen s
  by_cases h0 : 0 < s.size
  · by_cases hs : s.size < (s.data.toList.getD 0 0).toNat + 3
    · have hsh : unfShort s.data.toList = true := decide_eq_true (by omega)
      have e1 : unfV s.data.toList = itemNone := by rw [unfV, hsh]; rfl
      have e2 : unfN s.data.toList = 0 := by rw [unfN, hsh]; rfl
      have e3 : unfE s.data.toList = 0 := by rw [unfE, hsh]; rfl
      rw [e1, e2, e3]
      exact runframe_short s w h0 hl hs
    · have hsh : unfShort s.data.toList = false := decide_eq_false (by omega)
      have hbad : unfOk s.data.toList = false → unfV s.data.toList = itemNone ∧ unfN s.data.toList = 0 ∧ unfE s.data.toList = 2 := fun hok =>
        ⟨by rw [unfV, hsh, hok]; rfl, by rw [unfN, hsh, hok]; rfl, by rw [unfE, hsh, hok]; rfl⟩
      cases hcr : unfCrc s.data.toList with
      | false =>
        obtain ⟨e1, e2, e3⟩ := hbad (by rw [unfOk, hcr]; rfl)
        rw [e1, e2, e3]
        exact runframe_crc s w h0 hl (by omega) (.inl hcr)
      | true =>
        by_cases hne : unfBody s.data.toList = []
        · obtain ⟨e1, e2, e3⟩ := hbad (by rw [unfOk, hcr, hne]; rfl)
          rw [e1, e2, e3]
          exact runframe_crc s w h0 hl (by omega) (.inr hne)
        · refine (runframe_good s w h0 hl (by omega) hcr hne).mono ?_
          rintro e w' ⟨h1, h2, hb⟩
          refine ⟨?_, hb⟩
          cases hib : itemOfB (unfBody s.data.toList) with
          | true =>
            have hok : unfOk s.data.toList = true := by rw [unfOk, hcr, hib]; rfl
            have e1 : unfV s.data.toList = itemOfV (unfBody s.data.toList) := by rw [unfV, hsh, hok]; rfl
            have e2 : unfN s.data.toList = (((s.data.toList.getD 0 0).toNat + 3 : Nat) : Int) := by rw [unfN, hsh, hok]; rfl
            have e3 : unfE s.data.toList = 0 := by rw [unfE, hsh, hok]; rfl
            rw [e1, e2, e3]; exact h1 hib
          | false =>
            obtain ⟨e1, e2, e3⟩ := hbad (by rw [unfOk, hcr, hib]; rfl)
            rw [e1, e2, e3]; exact h2 hib
  · have hl0 : s.data.toList = [] := List.eq_nil_of_length_eq_zero (by omega)
    rw [hl0]
    exact runframe_empty s w (by omega)

end Go.Proofs.YtcfngdnmpogaoaaGreat
