import Derived.Test.YtcfngdnmpogaoaaProg
import Derived.Test.YtcfngdnmpogaoaaMath
import Derived.WalkKit
import Derived.WalkSpells
import Derived.WalkLawsBesides
namespace Go.Proofs.Ytcfngdnmpogaoaa
open Go.RowKit

theorem ret_int {k : IntKind} {a b : Int} (h : a = b) : Ending.returned (.int k a) = .returned (.int k b) := by rw [h]

set_option maxHeartbeats 400000 in
theorem steps_any (c n : Nat) (w : World) (hc : c < 65536) (hn : n < 1000) :
    Calls Try.prog 50 #[.int .u16 (c : Int), .int .i64 (n : Int)] w fun e w' => e = .returned (.int .u16 (crcN n c : Nat)) ∧ w' = w := by
  go_enter Try.func50, Try.ntmps50
  go_wp2
  go_loop [0, 7] (fun x i => ∃ k : Nat, k ≤ n ∧ i = .int .i64 (k : Int) ∧ x = .int .u16 (crcN k c : Nat)) (fun _ i => n - (intOf i).toNat)
  case atStart => exact ⟨0, Nat.zero_le _, rfl, rfl⟩
  case round =>
    obtain ⟨k, hk, rfl, rfl⟩ := hrel
    have hx := crcN_lt k c hc
    generalize hX : crcN k c = X at *
    have HX : Hid (crcN k c = X) := hX
    clear hX
    by_cases hlt : k < n
    · go_wp2
      · go_round
        case rel =>
          refine ⟨k + 1, by omega, by go_num, ?_⟩
          rw [crcN, HX.out, crcBit_odd X (by assumption), ← u16_xor_nat _ _ (by omega) (by omega)]; rfl
        case measure => simp [intOf]; omega
      · go_round
        case rel =>
          refine ⟨k + 1, by omega, by go_num, ?_⟩
          rw [crcN, HX.out, crcBit_even X (by assumption)]; rfl
        case measure => simp [intOf]; omega
    · have hkn : n = k := by omega
      subst hkn
      go_wp2
      go_ret
      exact ⟨ret_int (congrArg Nat.cast HX.out.symm), rfl⟩

/-- A slice's bytes, read. -/
def Bytes (w : World) (b off : Nat) (l : List UInt8) : Prop := ∀ j (h : j < l.length), w.cell? ⟨b, off + j, none⟩ = some (.int .u8 (l[j].toNat : Int))

set_option maxHeartbeats 400000 in
theorem check_any (b off cap : Nat) (l : List UInt8) (w : World) (hl : l.length ≤ 9223372036854775807) (hc : Bytes w b off l) :
    Calls Try.prog 31 #[.slice (some ⟨b, off, none⟩) l.length cap] w fun e w' => e = .returned (.int .u16 (crc l : Nat)) ∧ w' = w := by
  go_enter Try.func31, Try.ntmps31
  go_wp2
  go_loop [3, 8] (fun x i => ∃ k : Nat, k ≤ l.length ∧ i = .int .i64 (k : Int) ∧ x = .int .u16 (crcFrom 65535 (l.take k) : Nat)) (fun _ i => l.length - (intOf i).toNat)
  case atStart => exact ⟨0, Nat.zero_le _, rfl, rfl⟩
  case round =>
    obtain ⟨k, hk, rfl, rfl⟩ := hrel
    have hx := crcFrom_lt (l.take k) 65535 (by decide)
    generalize hX : crcFrom 65535 (l.take k) = X at *
    have HX : Hid (crcFrom 65535 (l.take k) = X) := hX
    clear hX
    by_cases hlt : k < l.length
    · have hcell := hc k hlt
      have hS := crc_take_succ l k hlt
      have HS : Hid (crcFrom 65535 (l.take (k + 1)) = crcN 8 (X ^^^ l[k].toNat)) := by rw [← HX.out]; exact hS
      clear hS
      have hb := l[k].toNat_lt
      have hxx := xor_byte_lt X l[k] hx
      generalize l[k].toNat = Y at *
      have e : bits BinOp.xor IntKind.u16 (X : Int) (Y : Int) = ((X ^^^ Y : Nat) : Int) := u16_xor_nat X Y hx (by omega)
      go_wp2_with fail
      refine (steps_any (X ^^^ Y) 8 w hxx (by omega)).mono ?_
      rintro e w' ⟨rfl, rfl⟩
      go_wp2
      go_round
      case rel => exact ⟨k + 1, by omega, by go_num, by rw [HS.out]⟩
      case measure => simp [intOf]; omega
    · have hkn : k = l.length := by omega
      go_wp2
      go_ret
      refine ⟨ret_int ?_, rfl⟩
      rw [← HX.out, hkn, List.take_length]; rfl


theorem xor64 (a b : Nat) (ha : a < 65536) (hb : b < 65536) : bits BinOp.xor IntKind.i64 (a : Int) (b : Int) = ((a ^^^ b : Nat) : Int) := by
  have hx : a ^^^ b < 65536 := Nat.xor_lt_two_pow (n := 16) ha hb
  have ha' : a % 2 ^ IntKind.i64.bits = a := Nat.mod_eq_of_lt (by show a < 2 ^ 64; omega)
  have hb' : b % 2 ^ IntKind.i64.bits = b := Nat.mod_eq_of_lt (by show b < 2 ^ 64; omega)
  simp only [bits, BitVec.ofInt_natCast, BitVec.toNat_xor, BitVec.toNat_ofNat, ha', hb']
  rw [IntKind.wrap_i64]
  omega

def signZ (m i : Int) : Int := wrap64 (m + wrap64 (i * wrap64 (1 + wrap64 (m.tdiv 256)))) % 256
end Go.Proofs.Ytcfngdnmpogaoaa
