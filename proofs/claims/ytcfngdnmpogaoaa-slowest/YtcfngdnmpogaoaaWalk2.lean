import Derived.Test.YtcfngdnmpogaoaaWalk1
import Derived.Test.YtcfngdnmpogaoaaMem
import Derived.Deep.QuietTactic
import Derived.BigQuiet
namespace Go.Proofs.Ytcfngdnmpogaoaa
open Go.RowKit

def byteV (x : UInt8) : Value := .int .u8 (x.toNat : Int)
theorem info5 : (Try.prog.info? 5).map (fun i => (i.zero, i.size, i.bytes)) = some (some (.int .u8 0), 1, 1) := by kernel_rfl

theorem Row.bytes {w : World} {g off n cap : Nat} {l : List UInt8} (h : Row w 5 1 (.slice (some ⟨g, off, none⟩) n cap) (l.map byteV)) : Bytes w g off l ∧ n = l.length := by
  have hn : n = l.length := by
    rcases h with ⟨h, _⟩ | ⟨g', off', n', cap', cur, hv, hg, _, _, _, hl, hc⟩
    · simp at h
    · simp only [Value.slice.injEq] at hv
      rw [hv.2.1]; simpa using hl.symm
  refine ⟨fun j hj => ?_, hn⟩
  rw [h.cell j (by omega)]
  simp [hj, byteV]

theorem one_new (w : World) (x : Value) (e : TypeId) : ∀ (j : Nat) (u : Value), [x][j]? = some u → (w.alloc (.cells #[x] e)).cell? ((⟨w.heap.size, 0, none⟩ : Addr).add j) = some u := by
  intro j u hu
  have hj : j = 0 := by
    have := (List.getElem?_eq_some_iff.1 hu).1
    simpa using this
  subst hj
  simp at hu
  subst hu
  simp [Addr.add_lit]

theorem wrap_byte (n : Nat) : ((n : Int) % 256) = ((UInt8.ofNat n).toNat : Int) := by
  simp [UInt8.toNat_ofNat']

set_option maxHeartbeats 800000 in
theorem appendLow_any (v : Value) (l : List UInt8) (x k B : Nat) (w : World) (hrow : Row w 5 1 v (l.map byteV)) (hB : ∀ g, v.ownBlock = some g → B ≤ g) (hBw : B ≤ w.heap.size)
    (hx0 : x < 18446744073709551616) (hk : k ≤ 8) (hl : l.length ≤ 1000) :
    Calls Try.prog 30 #[v, .int .u64 (x : Int), .int .i64 (k : Int)] w fun e w' =>
      ∃ v', e = .returned v' ∧ Row w' 5 1 v' ((l ++ low x k).map byteV) ∧ (∀ g, v'.ownBlock = some g → B ≤ g) ∧ Below B w w' := by
  have hx : Hid (x < 18446744073709551616) := hx0
  clear hx0
  obtain ⟨i, hi, hz0, hz1, hz2⟩ := info_parts info5
  go_enter Try.func30, Try.ntmps30
  go_wp2
  go_loopw [0, 1, 8] (fun b y c wr => ∃ (n X : Nat), n ≤ k ∧ c = .int .i64 (n : Int) ∧ Hid (X < 18446744073709551616) ∧ y = .int .u64 (X : Int) ∧ X = x / 256 ^ n ∧ Row wr 5 1 b ((l ++ low x n).map byteV) ∧ (∀ g, b.ownBlock = some g → B ≤ g) ∧ Below B w wr ∧ B ≤ wr.heap.size)
    (fun _ _ c _ => k - (intOf c).toNat)
  case atStart => exact ⟨0, x, Nat.zero_le _, rfl, hx, rfl, by simp, by simpa [low] using hrow, hB, Below.refl _ _, hBw⟩
  case round =>
    obtain ⟨n, X, hn, rfl, hX, rfl, hXe, hr, hu, hb, hBr⟩ := hrel
    have HX : Hid (X = x / 256 ^ n) := hXe
    clear hXe
    by_cases hlt : n < k
    · have hll : ((l ++ low x n).map byteV).length = l.length + n := by simp [low_length]
      generalize hL : (l ++ low x n).map byteV = L at *
      have HL : Hid ((l ++ low x n).map byteV = L) := hL
      clear hL
      go_wp2_with (at_builtin; go_must (refine wpList_append _ rfl _ _ _ _ rfl 5 i (.int .u8 0) 1 1 Try.underlying32 hi hz0 hz1 hz2 rfl Nat.one_pos u0 L rfl (hr.alloc _) (.slice (some ⟨wr.heap.size, 0, none⟩) 1 1) 1 [.int .u8 ((X : Int) % 256)] rfl ?hsrc Nat.one_pos ?h63 ?hby ?next))
      case hsrc => exact Src.ofSlice _ Try.underlying32 ⟨wr.heap.size, 0, none⟩ 1 1 _ rfl (one_new wr _ _) (by simp [Value.oneCell'])
      case h63 => rw [hll]; simp only [maxLen]; omega
      case hby => rw [hll]; omega
      intro v' w' ha
      have HA : Hid (App (wr.alloc (.cells #[.int .u8 ((X : Int) % 256)] 5)) w' 5 1 u0 v' L [.int .u8 ((X : Int) % 256)]) := ha
      clear ha
      go_wp2
      have ha := HA.out
      have hb1 : Below B wr (wr.alloc (.cells #[.int .u8 ((X : Int) % 256)] 5)) := (Below.refl B wr).alloc hBr _
      have hb2 := hb1.trans (ha.below hu (by simp; omega))
      have hrr := ha.row
      rw [wrap_byte, ← HL.out] at hrr
      go_round
      case rel =>
        refine ⟨n + 1, X / 256, by omega, by go_num, Nat.lt_of_le_of_lt (Nat.div_le_self _ _) hX, rfl, ?_, ?_, ha.blk hu (by simp; omega), hb.trans hb2, Nat.le_trans hBr hb2.size⟩
        · rw [HX.out, Nat.div_div_eq_div_mul, Nat.pow_succ]
        · rw [low_snoc, ← HX.out, ← List.append_assoc, List.map_append (l₂ := [_])]
          exact hrr
      case measure => simp [intOf]; omega
    · have hnk : n = k := by omega
      subst hnk
      go_wp2
      go_ret
      exact ⟨_, rfl, hr, hu, hb⟩


theorem or_byte (V Y : Nat) (hY : Y < 256) : (V * 256) ||| Y = Y + 256 * V := by
  have h := Nat.shiftLeft_add_eq_or_of_lt (a := V) (b := Y) (i := 8) (by omega)
  rw [Nat.shiftLeft_eq, show 2 ^ 8 = 256 from rfl] at h
  omega

set_option maxHeartbeats 800000 in
theorem readLow_any (b off cap : Nat) (l : List UInt8) (w : World) (hl : l.length ≤ 8) (hc : Bytes w b off l) :
    Calls Try.prog 46 #[.slice (some ⟨b, off, none⟩) l.length cap] w fun e w' => e = .returned (.int .u64 (numb l : Nat)) ∧ w' = w := by
  go_enter Try.func46, Try.ntmps46
  go_wp2
  go_loop [3, 4] (fun x i => ∃ k : Nat, k ≤ l.length ∧ i = .int .i64 ((k : Int) - 1) ∧ x = .int .u64 (numb (l.drop k) : Nat)) (fun _ i => (intOf i + 1).toNat)
  case atStart => exact ⟨l.length, Nat.le_refl _, rfl, by simp [numb]⟩
  case round =>
    obtain ⟨k, hk, rfl, rfl⟩ := hrel
    cases k with
    | zero =>
      go_wp2
      go_ret
      exact ⟨rfl, rfl⟩
    | succ k =>
      have hlt : k < l.length := by omega
      have hcell := hc k hlt
      have hv := numb_lt (l.drop (k + 1))
      have HS : Hid (numb (l.drop k) = l[k].toNat + 256 * numb (l.drop (k + 1))) := numb_drop l k hlt
      have hy := l[k].toNat_lt
      generalize l[k].toNat = Y at *
      generalize numb (l.drop (k + 1)) = V at *
      have hp : 256 ^ (l.drop (k + 1)).length ≤ 256 ^ 7 := Nat.pow_le_pow_right (by decide) (by simp; omega)
      have hV : V < 72057594037927936 := by omega
      clear hv hp
      go_wp2
      go_round
      case rel =>
        refine ⟨k, by omega, rfl, ?_⟩
        rw [HS.out, ← or_byte V Y (by omega), ← u64_or_nat _ _ (by omega) (by omega), Int.natCast_mul]; rfl
      case measure => simp [intOf]

end Go.Proofs.Ytcfngdnmpogaoaa
