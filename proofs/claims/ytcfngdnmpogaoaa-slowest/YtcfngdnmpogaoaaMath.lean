/- Plain numbers: the check of bytes, numbers in bytes. -/
import Derived.WalkKit
namespace Go.Proofs.Ytcfngdnmpogaoaa

/-- One of the eight steps of the check. -/
def crcBit (c : Nat) : Nat := if c % 2 = 1 then (c / 2) ^^^ 40961 else c / 2
def crcN : Nat → Nat → Nat
  | 0, c => c
  | n + 1, c => crcBit (crcN n c)
def crcFrom (c : Nat) : List UInt8 → Nat
  | [] => c
  | x :: l => crcFrom (crcN 8 (c ^^^ x.toNat)) l
def crc (l : List UInt8) : Nat := crcFrom 65535 l

theorem crcBit_odd (c : Nat) (h : ((c : Int) % 2 == 1) = true) : crcBit c = (c / 2) ^^^ 40961 := by
  have h := beq_iff_eq.1 h
  unfold crcBit; rw [if_pos (by omega)]
theorem crcBit_even (c : Nat) (h : ((c : Int) % 2 == 1) = false) : crcBit c = c / 2 := by
  have h := beq_eq_false_iff_ne.1 h
  unfold crcBit; rw [if_neg (by omega)]
theorem crcBit_lt (c : Nat) (h : c < 65536) : crcBit c < 65536 := by
  unfold crcBit
  split
  · exact Nat.xor_lt_two_pow (n := 16) (by omega) (by decide)
  · omega
theorem crcN_lt (n c : Nat) (h : c < 65536) : crcN n c < 65536 := by
  induction n with
  | zero => exact h
  | succ n ih => exact crcBit_lt _ ih
theorem crcFrom_snoc (l : List UInt8) (c : Nat) (x : UInt8) : crcFrom c (l ++ [x]) = crcN 8 (crcFrom c l ^^^ x.toNat) := by
  induction l generalizing c with
  | nil => rfl
  | cons y l ih => exact ih _
theorem xor_byte_lt (c : Nat) (x : UInt8) (h : c < 65536) : c ^^^ x.toNat < 65536 :=
  Nat.xor_lt_two_pow (n := 16) h (by have := x.toNat_lt; omega)
theorem crcFrom_lt (l : List UInt8) (c : Nat) (h : c < 65536) : crcFrom c l < 65536 := by
  induction l generalizing c with
  | nil => exact h
  | cons x l ih => exact ih _ (crcN_lt _ _ (xor_byte_lt _ _ h))
theorem crc_lt (l : List UInt8) : crc l < 65536 := crcFrom_lt l _ (by decide)
theorem crc_take_succ (l : List UInt8) (k : Nat) (h : k < l.length) : crcFrom 65535 (l.take (k + 1)) = crcN 8 (crcFrom 65535 (l.take k) ^^^ l[k].toNat) := by
  rw [List.take_succ_eq_append_getElem h, crcFrom_snoc]

/-- A number in so many bytes, the lowest first. -/
def low (n : Nat) : Nat → List UInt8
  | 0 => []
  | k + 1 => UInt8.ofNat n :: low (n / 256) k
theorem low_length (n k : Nat) : (low n k).length = k := by
  induction k generalizing n with
  | zero => rfl
  | succ k ih => simp [low, ih]
theorem low_snoc (n k : Nat) : low n (k + 1) = low n k ++ [UInt8.ofNat (n / 256 ^ k)] := by
  induction k generalizing n with
  | zero => simp [low]
  | succ k ih =>
    rw [low, ih]
    simp only [low, List.cons_append, Nat.div_div_eq_div_mul, Nat.pow_succ]
    rw [Nat.mul_comm 256]
/-- The number that bytes are, the lowest first. -/
def numb : List UInt8 → Nat
  | [] => 0
  | x :: l => x.toNat + 256 * numb l
theorem numb_lt (l : List UInt8) : numb l < 256 ^ l.length := by
  induction l with
  | nil => simp [numb]
  | cons x l ih =>
    have := x.toNat_lt
    simp only [numb, List.length_cons, Nat.pow_succ]
    omega
theorem numb_low (n k : Nat) : numb (low n k) = n % 256 ^ k := by
  induction k generalizing n with
  | zero => simp [low, numb, Nat.mod_one]
  | succ k ih =>
    simp only [low, numb, ih, UInt8.toNat_ofNat']
    rw [show 256 ^ (k + 1) = 256 * 256 ^ k from by rw [Nat.pow_succ, Nat.mul_comm], Nat.mod_mul]
theorem low_numb (l : List UInt8) : low (numb l) l.length = l := by
  induction l with
  | nil => rfl
  | cons x l ih =>
    have hx := x.toNat_lt
    simp only [List.length_cons, low, numb]
    have e1 : (x.toNat + 256 * numb l) / 256 = numb l := by omega
    rw [e1, ih]
    congr 1
    apply UInt8.toNat_inj.1
    simp only [UInt8.toNat_ofNat']
    omega
theorem numb_drop (l : List UInt8) (k : Nat) (h : k < l.length) : numb (l.drop k) = l[k].toNat + 256 * numb (l.drop (k + 1)) := by
  rw [List.drop_eq_getElem_cons h]; rfl

end Go.Proofs.Ytcfngdnmpogaoaa
