import Derived.Test.YtcfngdnmpogaoaaGreatWalk9
import Derived.Test.YtcfngdnmpogaoaaGreatWalk6b
namespace Go.Proofs.YtcfngdnmpogaoaaGreat
open Go.RowKit

theorem two_box (w : World) (o o' : Obj) : Below w.heap.size w ((w.alloc o).alloc o') := ((Below.refl _ w).alloc (Nat.le_refl _) o).alloc (by simp) o'

set_option maxHeartbeats 1600000 in
theorem runframe_empty (s : ByteArray) (w : World) (h0 : s.size = 0) :
    Calls Tryz.prog 78 #[.string s] w fun e w' => e = .returned (.tuple #[itemNone, .int .i64 0, .int .i64 0]) ∧ Below w.heap.size w w' := by
  have hz : ((s.size : Int) == 0) = true := by simp [h0]
  go_enter Tryz.func78, Tryz.ntmps78
  go_wp2
  exact bodyPost_ret (v := .tuple #[itemNone, .int .i64 0, .int .i64 0]) (by simp [results, Tryz.results78, go_sem, itemNone]) rfl ⟨rfl, two_box _ _ _⟩

theorem getD_str (s : ByteArray) (j : Nat) (h : j < s.size) : s[j] = s.data.toList.getD j 0 := by
  rw [List.getD_eq_getElem?_getD, List.getElem?_eq_getElem (by rw [keyLen]; exact h)]
  rfl

set_option maxHeartbeats 1600000 in
theorem runframe_short (s : ByteArray) (w : World) (h0 : 0 < s.size) (hl : s.size ≤ 9223372036854775807) (hs : s.size < (s.data.toList.getD 0 0).toNat + 3) :
    Calls Tryz.prog 78 #[.string s] w fun e w' => e = .returned (.tuple #[itemNone, .int .i64 0, .int .i64 0]) ∧ Below w.heap.size w w' := by
  have hg := getD_str s 0 h0
  have hk := (s.data.toList.getD 0 0).toNat_lt
  generalize s.data.toList.getD 0 0 = x0 at *
  have hz : ((s.size : Int) == 0) = false := beq_eq_false_iff_ne.2 (by omega)
  have hd : decide ((s.size : Int) < (x0.toNat : Int) + 3) = true := by simp; omega
  go_enter Tryz.func78, Tryz.ntmps78
  go_wp2
  exact bodyPost_ret (v := .tuple #[itemNone, .int .i64 0, .int .i64 0]) (by simp [results, Tryz.results78, go_sem, itemNone]) rfl ⟨rfl, two_box _ _ _⟩

theorem extract_str (s : ByteArray) (a b : Nat) : s.extract a b = str ((s.data.toList.drop a).take (b - a)) := by
  rw [← str_of (s.extract a b)]
  congr 1
  simp [ByteArray.data_extract, List.extract_eq_take_drop]

set_option maxHeartbeats 1600000 in
theorem runframe_crc (s : ByteArray) (w : World) (h0 : 0 < s.size) (hl : s.size ≤ 9223372036854775807) (hs : (s.data.toList.getD 0 0).toNat + 3 ≤ s.size) (hc : unfCrc s.data.toList = false ∨ unfBody s.data.toList = []) :
    Calls Tryz.prog 78 #[.string s] w fun e w' => e = .returned (.tuple #[itemNone, .int .i64 0, .int .i64 2]) ∧ Below w.heap.size w w' := by
  have hg := getD_str s 0 h0
  have hk := (s.data.toList.getD 0 0).toNat_lt
  have hE : s.extract 1 ((s.data.toList.getD 0 0).toNat + 1) = str (unfBody s.data.toList) := extract_str _ _ _
  have hC := crc_lt (unfBody s.data.toList)
  have hbl : (unfBody s.data.toList).length = (s.data.toList.getD 0 0).toNat := by rw [unfBody, List.length_take, List.length_drop, keyLen]; omega
  have hq : Hid (∀ W : World, Calls Tryz.prog 113 #[.string s, .int .i64 ((s.data.toList.getD 0 0).toNat + 1 : Int), .int .i64 2] W fun e w' => e = .returned (.int .u64 (numb ((s.data.toList.drop (1 + (s.data.toList.getD 0 0).toNat)).take 2) : Nat)) ∧ w' = W) := fun W => by
    have := number_any s (1 + (s.data.toList.getD 0 0).toNat) 2 W hl (by omega) (by omega)
    rw [show ((1 + (s.data.toList.getD 0 0).toNat : Nat) : Int) = ((s.data.toList.getD 0 0).toNat : Int) + 1 from by omega] at this
    exact this
  have HK : Hid (unfCrc s.data.toList = decide (numb ((s.data.toList.drop (1 + (s.data.toList.getD 0 0).toNat)).take 2) = crc (unfBody s.data.toList))) := rfl
  have hrc := rcheck_any (str (unfBody s.data.toList))
  rw [str_data, str_size] at hrc
  have Hrc : Hid _ := hrc
  clear hrc
  generalize s.data.toList.getD 0 0 = x0 at *
  generalize unfCrc s.data.toList = cr at *
  generalize numb ((s.data.toList.drop (1 + x0.toNat)).take 2) = X at *
  generalize unfBody s.data.toList = body at *
  have hz : ((s.size : Int) == 0) = false := beq_eq_false_iff_ne.2 (by omega)
  have hd : decide ((s.size : Int) < (x0.toNat : Int) + 3) = false := by simp; omega
  have HC : Hid (cr = false ∨ body = []) := hc
  clear hc
  go_enter Tryz.func78, Tryz.ntmps78
  go_wp2_with fail
  refine (Hrc.out _ (by omega)).mono ?_
  rintro e w1 ⟨rfl, rfl⟩
  generalize crc body = C at *
  have hwC : IntKind.u64.wrap (C : Int) = C := by rw [IntKind.wrap_u64]; omega
  go_wp2_with fail
  refine (hq.out _).mono ?_
  rintro e w1 ⟨rfl, rfl⟩
  by_cases hx : X = C
  · have hb0 : body = [] := by
      rcases HC.out with h | h
      · rw [HK.out, decide_eq_false_iff_not] at h; exact absurd hx h
      · exact h
    have hk0 : x0.toNat = 0 := by rw [← hbl, hb0]; rfl
    have hxb : ((C : Int) != (X : Int)) = false := by simp [hx]
    have hk0' : ((x0.toNat : Int) == 0) = true := by simp [hk0]
    clear hx hb0 hk0 HK HC
    go_wp2
    exact bodyPost_ret (v := .tuple #[itemNone, .int .i64 0, .int .i64 2]) (by simp [results, Tryz.results78, go_sem, itemNone]) rfl ⟨rfl, two_box _ _ _⟩
  · have hxb : ((C : Int) != (X : Int)) = true := by simp; omega
    clear hx HK HC
    go_wp2
    exact bodyPost_ret (v := .tuple #[itemNone, .int .i64 0, .int .i64 2]) (by simp [results, Tryz.results78, go_sem, itemNone]) rfl ⟨rfl, two_box _ _ _⟩

end Go.Proofs.YtcfngdnmpogaoaaGreat
