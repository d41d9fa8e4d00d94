import Derived.Test.YtcfngdnmpogaoaaWalk5
import Derived.Deep.RegionWith
import Derived.StillTailTactics
namespace Go.Proofs.Ytcfngdnmpogaoaa
open Go.RowKit

/-- The same 64 bits with a sign. -/
def toI (x : Nat) : Int := wrap64 (x : Int)

def itemNone : Value := .agg #[.int .i64 0, .string ⟨#[]⟩, .int .i64 0, .int .i64 0, .int .u32 0]
def markVal (body : List UInt8) : Value := .agg #[.int .i64 2, .string ⟨#[]⟩, .int .i64 (toI (numb (body.drop 1))), .int .i64 0, .int .u32 0]

theorem Bytes.drop {w : World} {b off : Nat} {l : List UInt8} (h : Bytes w b off l) (k : Nat) : Bytes w b (off + k) (l.drop k) := by
  intro j hj
  have hj' : k + j < l.length := by simp at hj; omega
  have := h (k + j) hj'
  rw [Nat.add_assoc, this]
  simp
theorem Bytes.take {w : World} {b off : Nat} {l : List UInt8} (h : Bytes w b off l) (k : Nat) : Bytes w b off (l.take k) := by
  intro j hj
  have hj' : j < l.length := by simp at hj; omega
  rw [h j hj']
  simp

theorem Bytes.below {w w' : World} {b off B : Nat} {l : List UInt8} (h : Bytes w b off l) (hb : Below B w w') (hB : b < B) : Bytes w' b off l := fun j hj => by
  rw [hb.cell (by exact hB)]; exact h j hj
theorem Bytes.lt {w : World} {b off : Nat} {l : List UInt8} (h : Bytes w b off l) (hl : 0 < l.length) : b < w.heap.size := World.block_lt_of_cell? w ⟨b, off + 0, none⟩ (h 0 hl)
theorem Bytes.alloc {w : World} {b off : Nat} {l : List UInt8} (h : Bytes w b off l) (o : Obj) : Bytes (w.alloc o) b off l := by
  intro j hj
  have hlt : b < w.heap.size := h.lt (by omega)
  exact (Bytes.below h ((Below.refl _ w).alloc (Nat.le_refl _) o) hlt) j hj
theorem readLow_n (b off cap n : Nat) (l : List UInt8) (w : World) (hn : n = l.length) (hl : l.length ≤ 8) (hc : Bytes w b off l) :
    Calls Try.prog 46 #[.slice (some ⟨b, off, none⟩) n cap] w fun e w' => e = .returned (.int .u64 (numb l : Nat)) ∧ w' = w := by
  subst hn; exact readLow_any b off cap l w hl hc

set_option maxHeartbeats 800000 in
theorem markOf_any (b off cap : Nat) (body : List UInt8) (w : World) (hc : Bytes w b off body) (_hl : body.length ≤ 1000) (hcap : body.length < cap) :
    Calls Try.prog 63 #[.slice (some ⟨b, off, none⟩) body.length cap] w fun e w' =>
      e = .returned (.tuple #[if body.length = 9 then markVal body else itemNone, .bool (decide (body.length = 9))]) ∧ Below w.heap.size w w' := by
  by_cases h9 : body.length = 9
  · have hdl : Hid ((body.drop 1).length = 8) := by show _ = _; simp [h9]
    have hdb := (hc.drop 1).alloc
    have HM : Hid (markVal body = .agg #[.int .i64 2, .string ⟨#[]⟩, .int .i64 (wrap64 (numb (body.drop 1) : Nat)), .int .i64 0, .int .u32 0]) := rfl
    generalize body.drop 1 = d at *
    rw [if_pos h9, decide_eq_true h9]
    go_enter Try.func63, Try.ntmps63
    go_wp2_with fail
    refine (readLow_n b (off + 1) (cap - 1) 8 d _ hdl.out.symm (by rw [hdl.out]; omega) (hdb _)).mono ?_
    rintro e w' ⟨rfl, rfl⟩
    go_wp2
    exact bodyPost_ret (v := .tuple #[.agg #[.int .i64 2, .string ⟨#[]⟩, .int .i64 (wrap64 (numb d : Nat)), .int .i64 0, .int .u32 0], .bool true]) (by simp [results, Try.results63, go_sem]) rfl ⟨by rw [HM.out], (Below.refl _ _).alloc (Nat.le_refl _) _⟩
  · rw [if_neg h9, decide_eq_false h9]
    go_enter Try.func63, Try.ntmps63
    go_wp2
    exact bodyPost_ret (v := .tuple #[itemNone, .bool false]) (by simp [results, Try.results63, go_sem, itemNone]) rfl ⟨rfl, (Below.refl _ _).alloc (Nat.le_refl _) _⟩


/-- What eventOf asks of a body. -/
def isEvent (body : List UInt8) : Bool := decide (2 ≤ body.length) && (decide (1 ≤ (body.getD 1 0).toNat) && (decide ((body.getD 1 0).toNat ≤ 8) && decide (body.length = 22 + (body.getD 1 0).toNat)))
def eventVal (body : List UInt8) (k : Nat) : Value := .agg #[.int .i64 1, .string (str ((body.drop 2).take k)), .int .i64 (toI (numb ((body.drop (2 + k)).take 8))), .int .i64 (toI (numb ((body.drop (10 + k)).take 8))), .int .u32 (numb (body.drop (18 + k)) : Nat)]

theorem Bytes.at {w : World} {b off : Nat} {l : List UInt8} (h : Bytes w b off l) (j : Nat) (hj : j < l.length) : w.cell? ⟨b, off + j, none⟩ = some (.int .u8 ((l.getD j 0).toNat : Int)) := by
  rw [h j hj]; simp [List.getD, hj]

theorem readLow_at (b off off' n cap : Nat) (body : List UInt8) (w : World) (hc : Bytes w b off body) (h1 : off ≤ off') (h2 : off' - off + n ≤ body.length) (hn : n ≤ 8) :
    Calls Try.prog 46 #[.slice (some ⟨b, off', none⟩) n cap] w fun e w' => e = .returned (.int .u64 (numb ((body.drop (off' - off)).take n) : Nat)) ∧ w' = w := by
  have h := (hc.drop (off' - off)).take n
  rw [show off + (off' - off) = off' from by omega] at h
  exact readLow_n b off' cap n _ w (by simp; omega) (by simp; omega) h

theorem conv_at (b off off' n cap : Nat) (body : List UInt8) (w : World) (hc : Bytes w b off body) (h1 : off ≤ off') (h2 : off' - off + n ≤ body.length) :
    (convert 32 9 (.slice (some ⟨b, off', none⟩) n cap)).run Try.prog w = .ok (.string (str ((body.drop (off' - off)).take n))) w := by
  have h := (hc.drop (off' - off)).take n
  rw [show off + (off' - off) = off' from by omega] at h
  have hn : ((body.drop (off' - off)).take n).length = n := by simp; omega
  have := run_convert_bytes_back (P := Try.prog) w 32 9 5 ⟨b, off', none⟩ cap ((body.drop (off' - off)).take n) Try.underlying32 Try.underlying5 Try.underlying9 (fun j hj => by
    rw [Addr.add_lit]; exact h j hj)
  rw [hn] at this
  exact this

set_option maxRecDepth 20000 in
set_option maxHeartbeats 1600000 in
theorem eventOf_yes (b off cap : Nat) (body : List UInt8) (k : Nat) (w : World) (hc : Bytes w b off body) (h1 : 1 ≤ k) (h8 : k ≤ 8) (hl0 : body.length = 22 + k) (hk : (body.getD 1 0).toNat = k) (hcap : 22 + k < cap) :
    Calls Try.prog 62 #[.slice (some ⟨b, off, none⟩) (22 + k) cap] w fun e w' =>
      e = .returned (.tuple #[eventVal body k, .bool true]) ∧ Below w.heap.size w w' := by
  have hlt : b < w.heap.size := hc.lt (by omega)
  have hc1 : ∀ o, (w.alloc o).cell? ⟨b, off + 1, none⟩ = some (.int .u8 (k : Int)) := fun o => by
    rw [(hc.alloc o).at 1 (by omega), hk]
  have hl : Hid (body.length = 22 + k) := hl0
  clear hl0 hk
  have hne : ((22 : Int) + (k : Int) != 2 + (k : Int) + 20) = false := by simp; omega
  go_enter Try.func62, Try.ntmps62
  go_wp2_with fail
  go_quiet (fail)
  go_wp2_with fail
  rw [show 2 + k - 2 = k from by omega, show 22 + k - (2 + k) = 20 from by omega]
  have hby : Bytes ((w.alloc (.cells #[.int .i64 0, .string ⟨#[]⟩, .int .i64 0, .int .i64 0, .int .u32 0] 69)).drewN nq) b off body := by
    intro j hj; have := hc.alloc (.cells #[.int .i64 0, .string ⟨#[]⟩, .int .i64 0, .int .i64 0, .int .u32 0] 69) j hj; simpa using this
  have Hb : Hid (Below w.heap.size w ((w.alloc (.cells #[.int .i64 0, .string ⟨#[]⟩, .int .i64 0, .int .i64 0, .int .u32 0] 69)).drewN nq)) := by
    exact below_drewN ((Below.refl _ w).alloc (Nat.le_refl _) _) nq
  have c0 : ((w.alloc (.cells #[.int .i64 0, .string ⟨#[]⟩, .int .i64 0, .int .i64 0, .int .u32 0] 69)).drewN nq).cell? ⟨w.heap.size, 0, none⟩ = some (.int .i64 0) := by simp
  have c1 : ((w.alloc (.cells #[.int .i64 0, .string ⟨#[]⟩, .int .i64 0, .int .i64 0, .int .u32 0] 69)).drewN nq).cell? ⟨w.heap.size, 1, none⟩ = some (.string ⟨#[]⟩) := by simp
  have c2 : ((w.alloc (.cells #[.int .i64 0, .string ⟨#[]⟩, .int .i64 0, .int .i64 0, .int .u32 0] 69)).drewN nq).cell? ⟨w.heap.size, 2, none⟩ = some (.int .i64 0) := by simp
  have c3 : ((w.alloc (.cells #[.int .i64 0, .string ⟨#[]⟩, .int .i64 0, .int .i64 0, .int .u32 0] 69)).drewN nq).cell? ⟨w.heap.size, 3, none⟩ = some (.int .i64 0) := by simp
  have c4 : ((w.alloc (.cells #[.int .i64 0, .string ⟨#[]⟩, .int .i64 0, .int .i64 0, .int .u32 0] 69)).drewN nq).cell? ⟨w.heap.size, 4, none⟩ = some (.int .u32 0) := by simp
  have fz : ∀ j, ((w.alloc (.cells #[.int .i64 0, .string ⟨#[]⟩, .int .i64 0, .int .i64 0, .int .u32 0] 69)).drewN nq).frozen? ⟨w.heap.size, j, none⟩ = false := by intro j; simp
  generalize (w.alloc (.cells #[.int .i64 0, .string ⟨#[]⟩, .int .i64 0, .int .i64 0, .int .u32 0] 69)).drewN nq = W1 at *
  clear hc hc1 hne
  refine wp_region_still_tail 15 (by kernel_rfl) (by kernel_rfl) ?_
  simp only [List.take_succ_cons, List.take_zero, List.drop_succ_cons, List.drop_zero]
  change wpStill Try.prog _ W1.drew (fun a' => wpList Try.prog _ _ _ a' W1.drew) _ _
  have c0 : W1.drew.cell? ⟨w.heap.size, 0, none⟩ = some (.int .i64 0) := c0
  have c1 : W1.drew.cell? ⟨w.heap.size, 1, none⟩ = some (.string ⟨#[]⟩) := c1
  have c2 : W1.drew.cell? ⟨w.heap.size, 2, none⟩ = some (.int .i64 0) := c2
  have c3 : W1.drew.cell? ⟨w.heap.size, 3, none⟩ = some (.int .i64 0) := c3
  have c4 : W1.drew.cell? ⟨w.heap.size, 4, none⟩ = some (.int .u32 0) := c4
  have fz : ∀ j, W1.drew.frozen? ⟨w.heap.size, j, none⟩ = false := fz
  have hby : Bytes W1.drew b off body := hby
  have Hb : Hid (Below w.heap.size w W1.drew) := Below.drew Hb.out
  generalize W1.drew = W2 at *
  have hcv := conv_at b off (off + 2) k (cap - 2) body W2 hby (by omega) (by rw [hl.out]; omega)
  have hl22 := hl.out
  have hcc : 20 < cap - (2 + k) := by omega
  generalize cap - (2 + k) = cc at *
  have b1 : (8 : Int) ≤ (cc : Int) := by omega
  have b2 : (16 : Int) ≤ (cc : Int) := by omega
  have b3 : ¬ cc = 16 := by omega
  have b4 : ¬ cc = 8 := by omega
  have q1 := fun cap' => readLow_at b off (off + (2 + k)) 8 cap' body W2 hby (by omega) (by omega) (by omega)
  have q2 := fun cap' => readLow_at b off (off + (2 + k) + 8) 8 cap' body W2 hby (by omega) (by omega) (by omega)
  have q3 := fun cap' => readLow_at b off (off + (2 + k) + 16) 4 cap' body W2 hby (by omega) (by omega) (by omega)
  have hA3 : numb ((body.drop (off + (2 + k) + 16 - off)).take 4) < 4294967296 := by
    have h := numb_lt ((body.drop (off + (2 + k) + 16 - off)).take 4)
    have h2 : 256 ^ ((body.drop (off + (2 + k) + 16 - off)).take 4).length ≤ 256 ^ 4 := Nat.pow_le_pow_right (by decide) (by simp; omega)
    omega
  have HE : Hid (eventVal body k = .agg #[.int .i64 1, .string (str ((body.drop (off + 2 - off)).take k)), .int .i64 (toI (numb ((body.drop (off + (2 + k) - off)).take 8))), .int .i64 (toI (numb ((body.drop (off + (2 + k) + 8 - off)).take 8))), .int .u32 (numb ((body.drop (off + (2 + k) + 16 - off)).take 4) : Nat)]) := by
    show eventVal body k = _
    have t4 : (body.drop (18 + k)).take 4 = body.drop (18 + k) := List.take_of_length_le (by simp; omega)
    rw [eventVal, show off + 2 - off = 2 from by omega, show off + (2 + k) - off = 2 + k from by omega, show off + (2 + k) + 8 - off = 10 + k from by omega, show off + (2 + k) + 16 - off = 18 + k from by omega, t4]
  generalize numb ((body.drop (off + (2 + k) - off)).take 8) = A1 at *
  generalize numb ((body.drop (off + (2 + k) + 8 - off)).take 8) = A2 at *
  generalize numb ((body.drop (off + (2 + k) + 16 - off)).take 4) = A3 at *
  generalize str ((body.drop (off + 2 - off)).take k) = S at *
  have hw3 : IntKind.u32.wrap (A3 : Int) = A3 := by rw [IntKind.wrap_u32]; omega
  have hw1 : IntKind.i64.wrap (A1 : Int) = toI A1 := IntWalk.i64_left _
  have hw2 : IntKind.i64.wrap (A2 : Int) = toI A2 := IntWalk.i64_left _
  generalize toI A1 = T1 at *
  generalize toI A2 = T2 at *
  have Hq1 : Hid _ := q1
  have Hq2 : Hid _ := q2
  have Hq3 : Hid _ := q3
  clear hl22 q1 q2 q3 hA3 hby hl
  repeat still_step
  still_call (Hq1.out _)
  repeat still_step
  still_call (Hq2.out _)
  repeat still_step
  still_call (Hq3.out _)
  repeat still_step
  try refine wpStill_nil ?_
  go_wp2
  refine bodyPost_ret (v := .tuple #[.agg #[.int .i64 1, .string S, .int .i64 T1, .int .i64 T2, .int .u32 (A3 : Nat)], .bool true]) ?_ rfl ⟨by rw [HE.out], ?_⟩
  · simp [results, Try.results62, go_sem, c0, c1, c2, c3, c4]
  · exact ((((Hb.out.setCell (Nat.le_refl _) _).setCell (Nat.le_refl _) _).setCell (Nat.le_refl _) _).setCell (Nat.le_refl _) _).setCell (Nat.le_refl _) _


theorem isEvent_true {body : List UInt8} (h : isEvent body = true) : 1 ≤ (body.getD 1 0).toNat ∧ (body.getD 1 0).toNat ≤ 8 ∧ body.length = 22 + (body.getD 1 0).toNat := by
  simp only [isEvent, Bool.and_eq_true, decide_eq_true_eq] at h
  exact ⟨h.2.1, h.2.2.1, h.2.2.2⟩

set_option maxHeartbeats 1600000 in
theorem eventOf_no (b off cap : Nat) (body : List UInt8) (w : World) (hc : Bytes w b off body) (hl : body.length ≤ 1000) (he : isEvent body = false) :
    Calls Try.prog 62 #[.slice (some ⟨b, off, none⟩) body.length cap] w fun e w' =>
      e = .returned (.tuple #[itemNone, .bool false]) ∧ Below w.heap.size w w' := by
  by_cases h2 : 2 ≤ body.length
  · have hlt : b < w.heap.size := hc.lt (by omega)
    have hc1 : ∀ o, (w.alloc o).cell? ⟨b, off + 1, none⟩ = some (.int .u8 ((body.getD 1 0).toNat : Int)) := fun o => (hc.alloc o).at 1 (by omega)
    have hkl := (body.getD 1 0).toNat_lt
    have HE : Hid (1 ≤ (body.getD 1 0).toNat → (body.getD 1 0).toNat ≤ 8 → body.length ≠ 22 + (body.getD 1 0).toNat) := by
      intro q1 q2 q3
      simp [isEvent, h2] at he
      exact he (by simpa using q1) (by simpa using q2) (by simpa using q3)
    generalize (body.getD 1 0).toNat = k at *
    generalize hn : body.length = n at *
    clear hn he
    by_cases h1 : 1 ≤ k
    · by_cases h8 : k ≤ 8
      · have hne := HE.out h1 h8
        have hne' : ((n : Int) != 2 + (k : Int) + 20) = true := by simp; omega
        clear hne
        go_enter Try.func62, Try.ntmps62
        go_wp2
        exact bodyPost_ret (v := .tuple #[itemNone, .bool false]) (by simp [results, Try.results62, go_sem, itemNone]) rfl ⟨rfl, (Below.refl _ _).alloc (Nat.le_refl _) _⟩
      · go_enter Try.func62, Try.ntmps62
        go_wp2
        exact bodyPost_ret (v := .tuple #[itemNone, .bool false]) (by simp [results, Try.results62, go_sem, itemNone]) rfl ⟨rfl, (Below.refl _ _).alloc (Nat.le_refl _) _⟩
    · go_enter Try.func62, Try.ntmps62
      go_wp2
      exact bodyPost_ret (v := .tuple #[itemNone, .bool false]) (by simp [results, Try.results62, go_sem, itemNone]) rfl ⟨rfl, (Below.refl _ _).alloc (Nat.le_refl _) _⟩
  · go_enter Try.func62, Try.ntmps62
    go_wp2
    exact bodyPost_ret (v := .tuple #[itemNone, .bool false]) (by simp [results, Try.results62, go_sem, itemNone]) rfl ⟨rfl, (Below.refl _ _).alloc (Nat.le_refl _) _⟩

end Go.Proofs.Ytcfngdnmpogaoaa
