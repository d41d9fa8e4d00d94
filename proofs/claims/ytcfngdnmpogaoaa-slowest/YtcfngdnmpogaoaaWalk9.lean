import Derived.Test.YtcfngdnmpogaoaaWalk8
namespace Go.Proofs.Ytcfngdnmpogaoaa
open Go.RowKit

def unfShort (l : List UInt8) : Bool := decide (l.length < (l.getD 0 0).toNat + 3)
def unfBody (l : List UInt8) : List UInt8 := (l.drop 1).take (l.getD 0 0).toNat
def unfCrc (l : List UInt8) : Bool := decide (numb ((l.drop (1 + (l.getD 0 0).toNat)).take 2) = crc (unfBody l))

set_option maxHeartbeats 1600000 in
theorem unframe_empty (a : Option Addr) (cap : Nat) (w : World) :
    Calls Try.prog 25 #[.slice a 0 cap] w fun e w' => e = .returned (.tuple #[itemNone, .int .i64 0, .int .i64 0]) ∧ Below w.heap.size w w' := by
  go_enter Try.func25, Try.ntmps25
  go_wp2
  exact bodyPost_ret (v := .tuple #[itemNone, .int .i64 0, .int .i64 0]) (by simp [results, Try.results25, go_sem, itemNone]) rfl ⟨rfl, (Below.refl _ _).alloc (Nat.le_refl _) _⟩

set_option maxHeartbeats 1600000 in
theorem unframe_short (b off cap : Nat) (l : List UInt8) (w : World) (hc : Bytes w b off l) (h0 : 0 < l.length) (hl : l.length ≤ 9223372036854775807) (hs : l.length < (l.getD 0 0).toNat + 3) :
    Calls Try.prog 25 #[.slice (some ⟨b, off, none⟩) l.length cap] w fun e w' => e = .returned (.tuple #[itemNone, .int .i64 0, .int .i64 0]) ∧ Below w.heap.size w w' := by
  have hlt : b < w.heap.size := hc.lt h0
  have hc0 : ∀ o, (w.alloc o).cell? ⟨b, off, none⟩ = some (.int .u8 ((l.getD 0 0).toNat : Int)) := fun o => (hc.alloc o).at 0 h0
  have hk := (l.getD 0 0).toNat_lt
  generalize (l.getD 0 0).toNat = k at *
  go_enter Try.func25, Try.ntmps25
  go_wp2
  exact bodyPost_ret (v := .tuple #[itemNone, .int .i64 0, .int .i64 0]) (by simp [results, Try.results25, go_sem, itemNone]) rfl ⟨rfl, (Below.refl _ _).alloc (Nat.le_refl _) _⟩

theorem check_n (b off cap n : Nat) (l : List UInt8) (w : World) (hn : n = l.length) (hl : l.length ≤ 9223372036854775807) (hc : Bytes w b off l) :
    Calls Try.prog 31 #[.slice (some ⟨b, off, none⟩) n cap] w fun e w' => e = .returned (.int .u16 (crc l : Nat)) ∧ w' = w := by
  subst hn; exact check_any b off cap l w hl hc
theorem itemOf_n (b off cap n : Nat) (body : List UInt8) (w : World) (hn : n = body.length) (hc : Bytes w b off body) (hl : body.length ≤ 1000) (hcap : body.length < cap) :
    Calls Try.prog 47 #[.slice (some ⟨b, off, none⟩) n cap] w fun e w' =>
      itemCells (itemOfV body) ∧ e = .returned (.tuple #[itemOfV body, .bool (itemOfB body)]) ∧ Below w.heap.size w w' := by
  subst hn; exact itemOf_any b off cap body w hc hl hcap

def unfOk (l : List UInt8) : Bool := unfCrc l && itemOfB (unfBody l)

set_option maxHeartbeats 1600000 in
theorem unframe_long (b off cap : Nat) (l : List UInt8) (w : World) (hc : Bytes w b off l) (h0 : 0 < l.length) (hl : l.length ≤ 9223372036854775807) (hcap : l.length ≤ cap) (hs : (l.getD 0 0).toNat + 3 ≤ l.length) :
    Calls Try.prog 25 #[.slice (some ⟨b, off, none⟩) l.length cap] w fun e w' =>
      (unfOk l = true → itemCells (itemOfV (unfBody l)) ∧ e = .returned (.tuple #[itemOfV (unfBody l), .int .i64 ((l.getD 0 0).toNat + 3 : Nat), .int .i64 0])) ∧
      (unfOk l = false → e = .returned (.tuple #[itemNone, .int .i64 0, .int .i64 2])) ∧ Below w.heap.size w w' := by
  have hlt : b < w.heap.size := hc.lt h0
  have hc0 : ∀ o, (w.alloc o).cell? ⟨b, off, none⟩ = some (.int .u8 ((l.getD 0 0).toNat : Int)) := fun o => (hc.alloc o).at 0 h0
  have hk := (l.getD 0 0).toNat_lt
  have hbl : (unfBody l).length = (l.getD 0 0).toNat := by rw [unfBody, List.length_take, List.length_drop]; omega
  have hbB : Hid (∀ o, Bytes (w.alloc o) b (off + 1) (unfBody l)) := fun o => ((hc.alloc o).drop 1).take _
  have hq : Hid (∀ o cap', Calls Try.prog 46 #[.slice (some ⟨b, off + (1 + (l.getD 0 0).toNat), none⟩) 2 cap'] (w.alloc o) fun e w' => e = .returned (.int .u64 (numb ((l.drop (1 + (l.getD 0 0).toNat)).take 2) : Nat)) ∧ w' = w.alloc o) := fun o cap' => by
    have := readLow_at b off (off + (1 + (l.getD 0 0).toNat)) 2 cap' l (w.alloc o) (hc.alloc o) (by omega) (by omega) (by omega)
    rw [Nat.add_sub_cancel_left] at this
    exact this
  have HK : Hid (unfCrc l = decide (numb ((l.drop (1 + (l.getD 0 0).toNat)).take 2) = crc (unfBody l))) := rfl
  have HO : Hid (unfOk l = (unfCrc l && itemOfB (unfBody l))) := rfl
  have hC := crc_lt (unfBody l)
  generalize (l.getD 0 0).toNat = k at *
  generalize unfBody l = body at *
  generalize numb ((l.drop (1 + k)).take 2) = X at *
  go_enter Try.func25, Try.ntmps25
  go_wp2_with fail
  refine (hq.out _ _).mono ?_
  rintro e w1 ⟨rfl, rfl⟩
  go_wp2_with fail
  refine (check_n b (off + 1) (cap - 1) k body _ hbl.symm (by omega) (hbB.out _)).mono ?_
  rintro e w1 ⟨rfl, rfl⟩
  generalize crc body = C at *
  cases hcr : unfCrc l with
  | false =>
    have hxc : ((X : Int) != (C : Int)) = true := by
      have := HK.out; rw [hcr] at this
      have := of_decide_eq_false this.symm
      simp; omega
    have hok : Hid (unfOk l = false) := by show _ = _; rw [HO.out, hcr]; rfl
    clear HK HO hcr
    go_wp2
    refine bodyPost_ret (v := .tuple #[itemNone, .int .i64 0, .int .i64 2]) (by simp [results, Try.results25, go_sem, itemNone]) rfl ⟨fun h => ?_, fun _ => rfl, (Below.refl _ _).alloc (Nat.le_refl _) _⟩
    rw [hok.out] at h; cases h
  | true =>
    have hxc : ((X : Int) != (C : Int)) = false := by
      have := HK.out; rw [hcr] at this
      have := of_decide_eq_true this.symm
      simp; omega
    have HO' : Hid (unfOk l = itemOfB body) := by show _ = _; rw [HO.out, hcr]; rfl
    clear HK HO hcr
    go_wp2_with fail
    refine (itemOf_n b (off + 1) (cap - 1) k body _ hbl.symm (hbB.out _) (by omega) (by omega)).mono ?_
    rintro e w2 ⟨⟨x1, x2, x3, x4, x5, hv⟩, rfl, hb⟩
    rw [hv]
    have Hv : Hid (itemOfV body = .agg #[.int .i64 x1, .string x2, .int .i64 x3, .int .i64 x4, .int .u32 x5]) := hv
    clear hv
    obtain ⟨c0, c1, c2, c3, c4, fz, hs2, hbw⟩ := item_box hb (by simp)
    clear hb
    cases hib : itemOfB body with
    | false =>
      have hok : Hid (unfOk l = false) := by show _ = _; rw [HO'.out, hib]
      clear hib HO'
      go_wp2
      refine bodyPost_ret (v := .tuple #[itemNone, .int .i64 0, .int .i64 2]) (by simp [results, Try.results25, go_sem, itemNone, c0, c1, c2, c3, c4, hs2]) rfl ⟨fun h => ?_, fun _ => rfl, (item_put hbw).alloc (by simp; omega) _⟩
      rw [hok.out] at h; cases h
    | true =>
      have hok : Hid (unfOk l = true) := by show _ = _; rw [HO'.out, hib]
      clear hib HO'
      have hk3 : Hid ((1 : Int) + (k : Int) + 2 = ((k + 3 : Nat) : Int)) := by show _ = _; omega
      go_wp2
      refine bodyPost_ret (v := .tuple #[.agg #[.int .i64 x1, .string x2, .int .i64 x3, .int .i64 x4, .int .u32 x5], .int .i64 ((1 : Int) + (k : Int) + 2), .int .i64 0]) (by simp [results, Try.results25, go_sem, c0, c1, c2, c3, c4, hs2]) rfl ⟨fun _ => ⟨⟨_, _, _, _, _, Hv.out⟩, by rw [Hv.out, hk3.out]⟩, fun h => ?_, (item_put hbw).alloc (by simp; omega) _⟩
      rw [hok.out] at h; cases h

end Go.Proofs.Ytcfngdnmpogaoaa
