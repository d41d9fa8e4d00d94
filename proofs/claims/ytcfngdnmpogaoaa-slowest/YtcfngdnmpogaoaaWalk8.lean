import Derived.Test.YtcfngdnmpogaoaaWalk7
namespace Go.Proofs.Ytcfngdnmpogaoaa
open Go.RowKit

/-- What a body is the item of. -/
def itemOfB (body : List UInt8) : Bool := if body.getD 0 0 = 1 then isEvent body else if body.getD 0 0 = 2 then decide (body.length = 9) else false
def itemOfV (body : List UInt8) : Value := if itemOfB body then (if body.getD 0 0 = 1 then eventVal body (body.getD 1 0).toNat else markVal body) else itemNone

theorem isEvent_len {body : List UInt8} (h : isEvent body = true) : 2 ≤ body.length := by have := isEvent_true h; omega

def evV (body : List UInt8) : Value := if isEvent body then eventVal body (body.getD 1 0).toNat else itemNone
def mkV (body : List UInt8) : Value := if body.length = 9 then markVal body else itemNone
def mkB (body : List UInt8) : Bool := decide (body.length = 9)

/-- The cells of an item. -/
def itemCells (v : Value) : Prop := ∃ a b c d e, v = .agg #[.int .i64 a, .string b, .int .i64 c, .int .i64 d, .int .u32 e]
theorem itemNone_cells : itemCells itemNone := ⟨_, _, _, _, _, rfl⟩
theorem markVal_cells (l : List UInt8) : itemCells (markVal l) := ⟨_, _, _, _, _, rfl⟩
theorem eventVal_cells (l : List UInt8) (k : Nat) : itemCells (eventVal l k) := ⟨_, _, _, _, _, rfl⟩

theorem eventOf_any (b off cap : Nat) (body : List UInt8) (w : World) (hc : Bytes w b off body) (hl : body.length ≤ 1000) (hcap : body.length < cap) :
    Calls Try.prog 62 #[.slice (some ⟨b, off, none⟩) body.length cap] w fun e w' =>
      (∃ v, itemCells v ∧ v = evV body ∧ e = .returned (.tuple #[v, .bool (isEvent body)])) ∧ Below w.heap.size w w' := by
  cases he : isEvent body with
  | false => exact (eventOf_no b off cap body w hc hl he).mono fun e w' ⟨h1, h2⟩ => ⟨⟨_, itemNone_cells, by rw [evV, he]; rfl, h1⟩, h2⟩
  | true =>
    obtain ⟨h1, h8, hl'⟩ := isEvent_true he
    have h := eventOf_yes b off cap body (body.getD 1 0).toNat w hc h1 h8 hl' rfl (by omega)
    rw [← hl'] at h
    exact h.mono fun e w' ⟨h1, h2⟩ => ⟨⟨_, eventVal_cells _ _, by rw [evV, he]; rfl, h1⟩, h2⟩

theorem toNat_eq (x : UInt8) (n : Nat) (h : n < 256) : ((x.toNat : Int) == (n : Int)) = decide (x = UInt8.ofNat n) := by
  rw [Bool.eq_iff_iff]
  simp only [beq_iff_eq, decide_eq_true_eq]
  constructor
  · intro h'
    apply UInt8.toNat_inj.1
    simp [UInt8.toNat_ofNat']; omega
  · intro h'
    subst h'
    simp [UInt8.toNat_ofNat']; omega

theorem item_box {w w' : World} {x0 x1 x2 x3 x4 : Value} {t : TypeId} {B : Nat} (hb : Below B (w.alloc (.cells #[x0, x1, x2, x3, x4] t)) w') (hB : w.heap.size < B) :
    w'.cell? ⟨w.heap.size, 0, none⟩ = some x0 ∧ w'.cell? ⟨w.heap.size, 1, none⟩ = some x1 ∧ w'.cell? ⟨w.heap.size, 2, none⟩ = some x2 ∧ w'.cell? ⟨w.heap.size, 3, none⟩ = some x3 ∧ w'.cell? ⟨w.heap.size, 4, none⟩ = some x4 ∧
    (∀ j, w'.frozen? ⟨w.heap.size, j, none⟩ = false) ∧ w.heap.size < w'.heap.size ∧ Below w.heap.size w w' := by
  have hs := hb.size
  refine ⟨?_, ?_, ?_, ?_, ?_, fun j => ?_, ?_, ((Below.refl _ w).alloc (Nat.le_refl _) _).trans (hb.mono (by omega))⟩
  · rw [hb.cell (by exact hB)]; simp
  · rw [hb.cell (by exact hB)]; simp
  · rw [hb.cell (by exact hB)]; simp
  · rw [hb.cell (by exact hB)]; simp
  · rw [hb.cell (by exact hB)]; simp
  · rw [hb.frozen (by exact hB)]; simp
  · simp at hs; omega

theorem item_put {w w' : World} {x0 x1 x2 x3 x4 : Value} (hb : Below w.heap.size w w') : Below w.heap.size w (((((w'.setCell ⟨w.heap.size, 0, none⟩ x0).setCell ⟨w.heap.size, 1, none⟩ x1).setCell ⟨w.heap.size, 2, none⟩ x2).setCell ⟨w.heap.size, 3, none⟩ x3).setCell ⟨w.heap.size, 4, none⟩ x4) :=
  ((((hb.setCell (Nat.le_refl _) _).setCell (Nat.le_refl _) _).setCell (Nat.le_refl _) _).setCell (Nat.le_refl _) _).setCell (Nat.le_refl _) _

set_option maxHeartbeats 1600000 in
theorem itemOf_event (b off cap : Nat) (body : List UInt8) (w : World) (hc : Bytes w b off body) (hl : body.length ≤ 1000) (hcap : body.length < cap) (h0 : 0 < body.length) (h1 : body.getD 0 0 = 1) :
    Calls Try.prog 47 #[.slice (some ⟨b, off, none⟩) body.length cap] w fun e w' =>
      (∃ v, itemCells v ∧ v = evV body ∧ e = .returned (.tuple #[v, .bool (isEvent body)])) ∧ Below w.heap.size w w' := by
  have hlt : b < w.heap.size := hc.lt h0
  have hc0 : ∀ o, (w.alloc o).cell? ⟨b, off, none⟩ = some (.int .u8 1) := fun o => by
    have := (hc.alloc o).at 0 h0
    rw [h1] at this; exact this
  have hca := hc.alloc
  have Hca : Hid (∀ o, Bytes (w.alloc o) b off body) := hca
  clear hca h1
  go_enter Try.func47, Try.ntmps47
  go_wp2_with fail
  refine (eventOf_any b off cap body _ (Hca.out _) hl hcap).mono ?_
  rintro e w' ⟨⟨v, ⟨x1, x2, x3, x4, x5, rfl⟩, hv, rfl⟩, hb⟩
  have Hv : Hid _ := hv
  clear hv
  obtain ⟨c0, c1, c2, c3, c4, fz, hs, hbw⟩ := item_box hb (by simp)
  clear hb
  go_wp2
  refine bodyPost_ret (v := .tuple #[.agg #[.int .i64 x1, .string x2, .int .i64 x3, .int .i64 x4, .int .u32 x5], .bool (isEvent body)]) ?_ rfl ⟨⟨_, ⟨_, _, _, _, _, rfl⟩, Hv.out, rfl⟩, item_put hbw⟩
  simp [results, Try.results47, go_sem, c0, c1, c2, c3, c4]

set_option maxHeartbeats 1600000 in
theorem itemOf_mark (b off cap : Nat) (body : List UInt8) (w : World) (hc : Bytes w b off body) (hl : body.length ≤ 1000) (hcap : body.length < cap) (h0 : 0 < body.length) (h1 : body.getD 0 0 = 2) :
    Calls Try.prog 47 #[.slice (some ⟨b, off, none⟩) body.length cap] w fun e w' =>
      (∃ v, itemCells v ∧ v = mkV body ∧ e = .returned (.tuple #[v, .bool (mkB body)])) ∧ Below w.heap.size w w' := by
  have hlt : b < w.heap.size := hc.lt h0
  have hc0 : ∀ o, (w.alloc o).cell? ⟨b, off, none⟩ = some (.int .u8 2) := fun o => by
    have := (hc.alloc o).at 0 h0
    rw [h1] at this; exact this
  have hca := hc.alloc
  have Hca : Hid (∀ o, Bytes (w.alloc o) b off body) := hca
  clear hca h1
  have HM : Hid ((if body.length = 9 then markVal body else itemNone) = mkV body) := rfl
  have HB : Hid (decide (body.length = 9) = mkB body) := rfl
  have hvv : itemCells (mkV body) := by
    unfold mkV
    split
    · exact markVal_cells _
    · exact itemNone_cells
  go_enter Try.func47, Try.ntmps47
  go_wp2_with fail
  refine (markOf_any b off cap body _ (Hca.out _) hl hcap).mono ?_
  rintro e w' ⟨rfl, hb⟩
  rw [HM.out, HB.out]
  obtain ⟨x1, x2, x3, x4, x5, hv⟩ := hvv
  rw [hv]
  clear HM HB
  have Hv : Hid _ := hv
  clear hv
  obtain ⟨c0, c1, c2, c3, c4, fz, hs, hbw⟩ := item_box hb (by simp)
  clear hb
  go_wp2
  refine bodyPost_ret (v := .tuple #[.agg #[.int .i64 x1, .string x2, .int .i64 x3, .int .i64 x4, .int .u32 x5], .bool (mkB body)]) ?_ rfl ⟨⟨_, ⟨_, _, _, _, _, rfl⟩, Hv.out.symm, rfl⟩, item_put hbw⟩
  simp [results, Try.results47, go_sem, c0, c1, c2, c3, c4]

set_option maxHeartbeats 1600000 in
theorem itemOf_other (b off cap : Nat) (body : List UInt8) (w : World) (hc : Bytes w b off body) (hl : body.length ≤ 1000) (h0 : 0 < body.length) (h1 : ¬ body.getD 0 0 = 1) (h2 : ¬ body.getD 0 0 = 2) :
    Calls Try.prog 47 #[.slice (some ⟨b, off, none⟩) body.length cap] w fun e w' =>
      e = .returned (.tuple #[itemNone, .bool false]) ∧ Below w.heap.size w w' := by
  have hlt : b < w.heap.size := hc.lt h0
  have hc0 : ∀ o, (w.alloc o).cell? ⟨b, off, none⟩ = some (.int .u8 ((body.getD 0 0).toNat : Int)) := fun o => (hc.alloc o).at 0 h0
  have e1 : (((body.getD 0 0).toNat : Int) == 1) = false := by rw [show (1 : Int) = ((1 : Nat) : Int) from rfl, toNat_eq _ 1 (by omega)]; exact decide_eq_false h1
  have e2 : (((body.getD 0 0).toNat : Int) == 2) = false := by rw [show (2 : Int) = ((2 : Nat) : Int) from rfl, toNat_eq _ 2 (by omega)]; exact decide_eq_false h2
  clear h1 h2
  generalize (body.getD 0 0).toNat = k at *
  go_enter Try.func47, Try.ntmps47
  go_wp2
  exact bodyPost_ret (v := .tuple #[itemNone, .bool false]) (by simp [results, Try.results47, go_sem, itemNone]) rfl ⟨rfl, (Below.refl _ _).alloc (Nat.le_refl _) _⟩

set_option maxHeartbeats 1600000 in
theorem itemOf_empty (b off cap : Nat) (w : World) :
    Calls Try.prog 47 #[.slice (some ⟨b, off, none⟩) 0 cap] w fun e w' =>
      e = .returned (.tuple #[itemNone, .bool false]) ∧ Below w.heap.size w w' := by
  go_enter Try.func47, Try.ntmps47
  go_wp2
  exact bodyPost_ret (v := .tuple #[itemNone, .bool false]) (by simp [results, Try.results47, go_sem, itemNone]) rfl ⟨rfl, (Below.refl _ _).alloc (Nat.le_refl _) _⟩

theorem itemOf_any (b off cap : Nat) (body : List UInt8) (w : World) (hc : Bytes w b off body) (hl : body.length ≤ 1000) (hcap : body.length < cap) :
    Calls Try.prog 47 #[.slice (some ⟨b, off, none⟩) body.length cap] w fun e w' =>
      itemCells (itemOfV body) ∧ e = .returned (.tuple #[itemOfV body, .bool (itemOfB body)]) ∧ Below w.heap.size w w' := by
  by_cases h0 : 0 < body.length
  · by_cases h1 : body.getD 0 0 = 1
    · refine (itemOf_event b off cap body w hc hl hcap h0 h1).mono ?_
      rintro e w' ⟨⟨v, hv, hv2, rfl⟩, hb⟩
      have e1 : itemOfB body = isEvent body := by rw [itemOfB, if_pos h1]
      have e2 : itemOfV body = v := by rw [itemOfV, e1, hv2, if_pos h1]; rfl
      rw [e1, e2]
      exact ⟨hv, rfl, hb⟩
    · by_cases h2 : body.getD 0 0 = 2
      · refine (itemOf_mark b off cap body w hc hl hcap h0 h2).mono ?_
        rintro e w' ⟨⟨v, hv, hv2, rfl⟩, hb⟩
        have e1 : itemOfB body = mkB body := by rw [itemOfB, if_neg h1, if_pos h2]; rfl
        have e2 : itemOfV body = v := by rw [itemOfV, e1, hv2, if_neg h1]; simp [mkB, mkV]
        rw [e1, e2]
        exact ⟨hv, rfl, hb⟩
      · refine (itemOf_other b off cap body w hc hl h0 h1 h2).mono ?_
        rintro e w' ⟨rfl, hb⟩
        have e1 : itemOfB body = false := by rw [itemOfB, if_neg h1, if_neg h2]
        have e2 : itemOfV body = itemNone := by rw [itemOfV, e1]; simp
        rw [e1, e2]
        exact ⟨itemNone_cells, rfl, hb⟩
  · have hb0 : body = [] := List.eq_nil_of_length_eq_zero (by omega)
    subst hb0
    refine (itemOf_empty b off cap w).mono ?_
    rintro e w' ⟨rfl, hb⟩
    exact ⟨itemNone_cells, rfl, hb⟩

end Go.Proofs.Ytcfngdnmpogaoaa
