/-
  Numbers of a configuration: the greatest common divisor and the multiple below, of the code and of the reference.
-/
import Derived.Test.YtcfngdnmpogaoaaWalk2
namespace Go.Proofs.Ytcfngdnmpogaoaa
open Go.RowKit

theorem tmod_nat (a b : Nat) : Int.tmod (a : Int) (b : Int) = ((a % b : Nat) : Int) := by
  rw [Int.tmod_eq_emod_of_nonneg (by omega)]; rfl

set_option maxHeartbeats 400000 in
theorem gcd_any (A B : Nat) (w : World) (ha : A ≤ 9223372036854775807) (hb : B ≤ 9223372036854775807) :
    Calls Try.prog 36 #[.int .i64 A, .int .i64 B] w fun e w' => e = .returned (.int .i64 (Nat.gcd A B : Nat)) ∧ ∃ m, w' = w.drewN m := by
  go_enter Try.func36, Try.ntmps36
  go_wp2
  go_loopw [0, 1] (fun x y wr => ∃ a b : Nat, a ≤ 9223372036854775807 ∧ b ≤ 9223372036854775807 ∧ x = .int .i64 (a : Int) ∧ y = .int .i64 (b : Int) ∧ Nat.gcd b a = Nat.gcd A B ∧ ∃ m, wr = w.drewN m) (fun _ y _ => (intOf y).toNat)
  case atStart => exact ⟨A, B, ha, hb, rfl, rfl, Nat.gcd_comm B A, 0, rfl⟩
  case round =>
    obtain ⟨a, b, ha, hb, rfl, rfl, hg, m, hwm⟩ := hrel
    have HW : Hid (_ = w.drewN m) := hwm
    clear hwm
    have HG : Hid (Nat.gcd b a = Nat.gcd A B) := hg
    clear hg
    by_cases hz : b = 0
    · subst hz
      go_wp2
      go_ret
      refine ⟨ret_int ?_, m, HW.out⟩
      rw [← HG.out, Nat.gcd_zero_left]
    · have hn : ¬ ((b : Int) = 0) := by omega
      have hne : ((b : Int) != 0) = true := by simp; omega
      have hm : IntKind.i64.wrap (Int.tmod (a : Int) (b : Int)) = ((a % b : Nat) : Int) := by
        have := Nat.mod_lt a (Nat.pos_of_ne_zero hz)
        rw [tmod_nat, IntKind.wrap_i64]; omega
      go_wp2
      first | go_quiet (fail) | go_region
      go_wp2
      go_round
      case rel => exact ⟨b, a % b, hb, by have := Nat.mod_lt a (Nat.pos_of_ne_zero hz); omega, rfl, by go_num, by rw [← HG.out, Nat.gcd_rec b a], m + nq, by rw [HW.out]; simp⟩
      case measure => have := Nat.mod_lt a (Nat.pos_of_ne_zero hz); simp [intOf]; omega

/-- The greatest multiple of 'n' that is not above 't'. -/
def down (t n : Int) : Int := t - t % n

theorem tdiv_tmod_neg (t n : Int) (hn : 1 ≤ n) : t.tmod n = if t % n ≠ 0 ∧ t < 0 then t % n - n else t % n := by
  by_cases ht : 0 ≤ t
  · rw [Int.tmod_eq_emod_of_nonneg ht, if_neg (by omega)]
  · rw [Int.tmod_eq_emod]
    by_cases hd : n ∣ t
    · have := Int.emod_eq_zero_of_dvd hd
      simp [this, hd]
    · have : t % n ≠ 0 := fun h => hd (Int.dvd_of_emod_eq_zero h)
      rw [if_neg (by simp [hd, ht]), if_pos ⟨this, by omega⟩]
      omega

theorem downTo_any (t n : Int) (w : World) (hn : 1 ≤ n) (hn2 : n ≤ 1099511627776) (h1 : -2305843009213693952 ≤ t) (h2 : t ≤ 2305843009213693952) :
    Calls Try.prog 80 #[.int .i64 t, .int .i64 n] w fun e w' => e = .returned (.int .i64 (down t n)) ∧ w' = w := by
  have hz : ¬ n = 0 := by omega
  have hm := tdiv_tmod_neg t n hn
  have b1 := Int.emod_nonneg t hz
  have b2 := Int.emod_lt_of_pos t (show 0 < n by omega)
  have e1 : IntKind.i64.wrap (t.tmod n) = t.tmod n := by rw [IntKind.wrap_i64, hm]; split <;> omega
  by_cases hc : t % n ≠ 0 ∧ t < 0
  · rw [if_pos hc] at hm
    have hlt : t.tmod n < 0 := by omega
    go_enter Try.func80, Try.ntmps80
    go_wp2
    go_ret
    refine ⟨ret_int ?_, rfl⟩
    rw [down]
  · rw [if_neg hc] at hm
    have hlt : ¬ t.tmod n < 0 := by omega
    go_enter Try.func80, Try.ntmps80
    go_wp2
    go_ret
    refine ⟨ret_int ?_, rfl⟩
    rw [down]

/-- Is it a configuration? -/
def isConf (size slide late keys : Int) : Prop := 1 ≤ slide ∧ slide ≤ size ∧ size ≤ 1099511627776 ∧ size / (Nat.gcd size.toNat slide.toNat : Nat) ≤ 4096 ∧ 0 ≤ late ∧ late ≤ 1099511627776 ∧ 1 ≤ keys ∧ keys ≤ 16

abbrev confV (size slide late keys : Int) : Value := .agg #[.int .i64 size, .int .i64 slide, .int .i64 late, .int .i64 keys]

set_option maxHeartbeats 1600000 in
theorem isConfig_any (size slide late keys : Int) (w : World) :
    Calls Try.prog 21 #[confV size slide late keys] w fun e w' => (∃ b, e = .returned (.bool b) ∧ (b = true ↔ isConf size slide late keys)) ∧ Below w.heap.size w w' := by
  by_cases c1 : ¬ (1 ≤ slide)
  · have HF : Hid (false = true ↔ isConf size slide late keys) := by
      show false = true ↔ _
      unfold isConf
      simp only [Bool.false_eq_true, false_iff]
      omega
    have d1 : decide (1 ≤ slide) = false := decide_eq_false c1
    go_enter Try.func21, Try.ntmps21
    go_wp2_with fail
    go_quiet (fail)
    go_wp2
    go_ret
    exact ⟨⟨_, rfl, HF.out⟩, below_drewN ((Below.refl _ w).alloc (Nat.le_refl _) _) nq⟩
  rw [Decidable.not_not] at c1
  have d1 : decide (1 ≤ slide) = true := decide_eq_true c1
  by_cases c2 : ¬ (slide ≤ size)
  · have HF : Hid (false = true ↔ isConf size slide late keys) := by
      show false = true ↔ _
      unfold isConf
      simp only [Bool.false_eq_true, false_iff]
      omega
    have d2 : decide (slide ≤ size) = false := decide_eq_false c2
    go_enter Try.func21, Try.ntmps21
    go_wp2_with fail
    go_quiet (fail)
    go_wp2
    go_ret
    exact ⟨⟨_, rfl, HF.out⟩, below_drewN ((Below.refl _ w).alloc (Nat.le_refl _) _) nq⟩
  rw [Decidable.not_not] at c2
  have d2 : decide (slide ≤ size) = true := decide_eq_true c2
  by_cases c3 : ¬ (size ≤ 1099511627776)
  · have HF : Hid (false = true ↔ isConf size slide late keys) := by
      show false = true ↔ _
      unfold isConf
      simp only [Bool.false_eq_true, false_iff]
      omega
    have d3 : decide (size ≤ 1099511627776) = false := decide_eq_false c3
    go_enter Try.func21, Try.ntmps21
    go_wp2_with fail
    go_quiet (fail)
    go_wp2
    go_ret
    exact ⟨⟨_, rfl, HF.out⟩, below_drewN ((Below.refl _ w).alloc (Nat.le_refl _) _) nq⟩
  rw [Decidable.not_not] at c3
  have d3 : decide (size ≤ 1099511627776) = true := decide_eq_true c3
  obtain ⟨G, X, HG, hq, hG, HC⟩ : ∃ G X : Int, (∀ W : World, Calls Try.prog 36 #[.int .i64 size, .int .i64 slide] W fun e w' => e = .returned (.int .i64 G) ∧ ∃ m, w' = W.drewN m) ∧ IntKind.i64.wrap (Int.tdiv size G) = X ∧ ¬ G = 0 ∧
      Hid (isConf size slide late keys ↔ X ≤ 4096 ∧ 0 ≤ late ∧ late ≤ 1099511627776 ∧ 1 ≤ keys ∧ keys ≤ 16) := by
    obtain ⟨S, rfl⟩ : ∃ S : Nat, size = (S : Int) := ⟨size.toNat, by omega⟩
    obtain ⟨D, rfl⟩ : ∃ D : Nat, slide = (D : Int) := ⟨slide.toNat, by omega⟩
    have hg0 : 0 < Nat.gcd S D := Nat.gcd_pos_of_pos_left _ (by omega)
    have hl := Nat.div_le_self S (Nat.gcd S D)
    refine ⟨(Nat.gcd S D : Nat), (S / Nat.gcd S D : Nat), fun W => gcd_any S D W (by omega) (by omega), ?_, by omega, ?_⟩
    · rw [Int.tdiv_eq_ediv_of_nonneg (by omega), ← Int.natCast_ediv, IntKind.wrap_i64]
      generalize S / Nat.gcd S D = Y at *
      omega
    · show isConf S D late keys ↔ _
      unfold isConf
      rw [Int.toNat_natCast, Int.toNat_natCast, ← Int.natCast_ediv]
      generalize S / Nat.gcd S D = Y at *
      omega
  by_cases c4 : ¬ (X ≤ 4096)
  · have HF : Hid (false = true ↔ isConf size slide late keys) := by
      show false = true ↔ _
      have hc := HC.out
      rw [hc]
      simp
      omega
    have d4 : decide (X ≤ 4096) = false := decide_eq_false (by omega)
    go_enter Try.func21, Try.ntmps21
    go_wp2_with fail
    go_quiet ((go_at_call 36; exact Calls.quiet_of (HG _)))
    go_wp2
    go_ret
    exact ⟨⟨_, rfl, HF.out⟩, below_drewN ((Below.refl _ w).alloc (Nat.le_refl _) _) nq⟩
  rw [Decidable.not_not] at c4
  have d4 : decide (X ≤ 4096) = true := decide_eq_true (by omega)
  by_cases c5 : ¬ (0 ≤ late)
  · have HF : Hid (false = true ↔ isConf size slide late keys) := by
      show false = true ↔ _
      have hc := HC.out
      rw [hc]
      simp
      omega
    have d5 : decide (0 ≤ late) = false := decide_eq_false c5
    go_enter Try.func21, Try.ntmps21
    go_wp2_with fail
    go_quiet ((go_at_call 36; exact Calls.quiet_of (HG _)))
    go_wp2
    go_ret
    exact ⟨⟨_, rfl, HF.out⟩, below_drewN ((Below.refl _ w).alloc (Nat.le_refl _) _) nq⟩
  rw [Decidable.not_not] at c5
  have d5 : decide (0 ≤ late) = true := decide_eq_true c5
  by_cases c6 : ¬ (late ≤ 1099511627776)
  · have HF : Hid (false = true ↔ isConf size slide late keys) := by
      show false = true ↔ _
      have hc := HC.out
      rw [hc]
      simp
      omega
    have d6 : decide (late ≤ 1099511627776) = false := decide_eq_false c6
    go_enter Try.func21, Try.ntmps21
    go_wp2_with fail
    go_quiet ((go_at_call 36; exact Calls.quiet_of (HG _)))
    go_wp2
    go_ret
    exact ⟨⟨_, rfl, HF.out⟩, below_drewN ((Below.refl _ w).alloc (Nat.le_refl _) _) nq⟩
  rw [Decidable.not_not] at c6
  have d6 : decide (late ≤ 1099511627776) = true := decide_eq_true c6
  by_cases c7 : ¬ (1 ≤ keys)
  · have HF : Hid (false = true ↔ isConf size slide late keys) := by
      show false = true ↔ _
      have hc := HC.out
      rw [hc]
      simp
      omega
    have d7 : decide (1 ≤ keys) = false := decide_eq_false c7
    go_enter Try.func21, Try.ntmps21
    go_wp2_with fail
    go_quiet ((go_at_call 36; exact Calls.quiet_of (HG _)))
    go_wp2
    go_ret
    exact ⟨⟨_, rfl, HF.out⟩, below_drewN ((Below.refl _ w).alloc (Nat.le_refl _) _) nq⟩
  rw [Decidable.not_not] at c7
  have d7 : decide (1 ≤ keys) = true := decide_eq_true c7
  by_cases c8 : ¬ (keys ≤ 16)
  · have HF : Hid (false = true ↔ isConf size slide late keys) := by
      show false = true ↔ _
      have hc := HC.out
      rw [hc]
      simp
      omega
    have d8 : decide (keys ≤ 16) = false := decide_eq_false c8
    go_enter Try.func21, Try.ntmps21
    go_wp2_with fail
    go_quiet ((go_at_call 36; exact Calls.quiet_of (HG _)))
    go_wp2
    go_ret
    exact ⟨⟨_, rfl, HF.out⟩, below_drewN ((Below.refl _ w).alloc (Nat.le_refl _) _) nq⟩
  rw [Decidable.not_not] at c8
  have d8 : decide (keys ≤ 16) = true := decide_eq_true c8
  have HF : Hid (true = true ↔ isConf size slide late keys) := by
    show true = true ↔ _
    have hc := HC.out
    rw [hc]
    simp
    omega
  go_enter Try.func21, Try.ntmps21
  go_wp2_with fail
  go_quiet ((go_at_call 36; exact Calls.quiet_of (HG _)))
  go_wp2
  go_ret
  exact ⟨⟨_, rfl, by simpa using HF.out⟩, below_drewN ((Below.refl _ w).alloc (Nat.le_refl _) _) nq⟩
end Go.Proofs.Ytcfngdnmpogaoaa
