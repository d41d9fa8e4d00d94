import Derived.Test.YtcfngdnmpogaoaaGreatWalk10
import Derived.Deep.RegionHeld3
namespace Go.Proofs.YtcfngdnmpogaoaaGreat
open Go.RowKit

set_option maxRecDepth 20000 in
set_option maxHeartbeats 3200000 in
theorem runframe_good (s : ByteArray) (w : World) (h0 : 0 < s.size) (hl : s.size ≤ 9223372036854775807) (hs : (s.data.toList.getD 0 0).toNat + 3 ≤ s.size) (hc : unfCrc s.data.toList = true) (hne : unfBody s.data.toList ≠ []) :
    Calls Tryz.prog 78 #[.string s] w fun e w' =>
      (itemOfB (unfBody s.data.toList) = true → e = .returned (.tuple #[itemOfV (unfBody s.data.toList), .int .i64 ((s.data.toList.getD 0 0).toNat + 3 : Nat), .int .i64 0])) ∧
      (itemOfB (unfBody s.data.toList) = false → e = .returned (.tuple #[itemNone, .int .i64 0, .int .i64 2])) ∧ Below w.heap.size w w' := by
  have hg := getD_str s 0 h0
  have hk := (s.data.toList.getD 0 0).toNat_lt
  have hE : s.extract 1 ((s.data.toList.getD 0 0).toNat + 1) = str (unfBody s.data.toList) := extract_str _ _ _
  have hC := crc_lt (unfBody s.data.toList)
  have hbl : (unfBody s.data.toList).length = (s.data.toList.getD 0 0).toNat := by rw [unfBody, List.length_take, List.length_drop, keyLen]; omega
  have hq : Hid (∀ W : World, Calls Tryz.prog 113 #[.string s, .int .i64 ((s.data.toList.getD 0 0).toNat + 1 : Int), .int .i64 2] W fun e w' => e = .returned (.int .u64 (numb ((s.data.toList.drop (1 + (s.data.toList.getD 0 0).toNat)).take 2) : Nat)) ∧ w' = W) := fun W => by
    have := number_any s (1 + (s.data.toList.getD 0 0).toNat) 2 W hl (by omega) (by omega)
    rw [show ((1 + (s.data.toList.getD 0 0).toNat : Nat) : Int) = ((s.data.toList.getD 0 0).toNat : Int) + 1 from by omega] at this
    exact this
  have HK : Hid (unfCrc s.data.toList = decide (numb ((s.data.toList.drop (1 + (s.data.toList.getD 0 0).toNat)).take 2) = crc (unfBody s.data.toList))) := rfl
  have hrc := rcheck_any (str (unfBody s.data.toList))
  rw [str_data, str_size] at hrc
  have Hrc : Hid _ := hrc
  clear hrc
  generalize s.data.toList.getD 0 0 = x0 at *
  generalize unfCrc s.data.toList = cr at *
  generalize numb ((s.data.toList.drop (1 + x0.toNat)).take 2) = X at *
  generalize unfBody s.data.toList = body at *
  have hz : ((s.size : Int) == 0) = false := beq_eq_false_iff_ne.2 (by omega)
  have hd : decide ((s.size : Int) < (x0.toNat : Int) + 3) = false := by simp; omega
  have HC : Hid (cr = true) := hc
  clear hc
  go_enter Tryz.func78, Tryz.ntmps78
  go_wp2_with fail
  refine (Hrc.out _ (by omega)).mono ?_
  rintro e w1 ⟨rfl, rfl⟩
  generalize crc body = C at *
  have hwC : IntKind.u64.wrap (C : Int) = C := by rw [IntKind.wrap_u64]; omega
  go_wp2_with fail
  refine (hq.out _).mono ?_
  rintro e w1 ⟨rfl, rfl⟩
  have hx : X = C := by have := HC.out; rw [HK.out] at this; exact of_decide_eq_true this
  have hxb : ((C : Int) != (X : Int)) = false := by simp [hx]
  have hkp : 0 < body.length := by cases body with | nil => exact absurd rfl hne | cons _ _ => simp
  have hk0' : ((x0.toNat : Int) == 0) = false := beq_eq_false_iff_ne.2 (by omega)
  clear hx HK HC hne hq Hrc hE hg
  have hsb : (str body).size = x0.toNat := by rw [str_size, hbl]
  obtain ⟨y0, Hy0⟩ : ∃ y, Hid (body.getD 0 0 = y) := ⟨_, rfl⟩
  have hb0 : ∀ h, (str body)[0]'h = y0 := fun h => by rw [getD_str _ _ h, str_data]; exact Hy0.out
  have hy0 := y0.toNat_lt
  have Hbl : Hid (body.length = x0.toNat) := hbl
  have hx0p : 0 < x0.toNat := by omega
  clear hbl hkp
  have HW : Hid (∀ o o' : Obj, Below w.heap.size w ((w.alloc o).alloc o')) := fun o o' => two_box w o o'
  by_cases h2 : y0 = 2
  · have e2 : ((y0.toNat : Int) == 2) = true := by rw [h2]; rfl
    have e1 : ((y0.toNat : Int) != 1) = true := by rw [h2]; rfl
    have H2 : Hid (body.getD 0 0 = 2) := by show _ = _; rw [Hy0.out, h2]
    clear h2
    by_cases h9 : x0.toNat = 9
    · have HI : Hid (itemOfB body = true) := by show _ = _; rw [itemOfB, H2.out]; simp [Hbl.out, h9]
      have HV : Hid (itemOfV body = markVal body) := by show _ = _; rw [itemOfV, HI.out, H2.out]; rfl
      have HM : Hid (markVal body = .agg #[.int .i64 2, .string ⟨#[]⟩, .int .i64 (toI (numb (body.drop 1))), .int .i64 0, .int .u32 0]) := rfl
      have Hn : Hid (∀ W : World, Calls Tryz.prog 113 #[.string (str body), .int .i64 1, .int .i64 8] W fun e w' => e = .returned (.int .u64 (numb (body.drop 1) : Nat)) ∧ w' = W) := fun W => by
        have hn := number_any (str body) 1 8 W (by omega) (by omega) (by omega)
        rw [str_data, List.take_of_length_le (by simp [Hbl.out, h9])] at hn
        exact hn
      have hw : IntKind.i64.wrap (numb (body.drop 1) : Nat) = toI (numb (body.drop 1)) := IntWalk.i64_left _
      have hw' : wrap64 (numb (body.drop 1) : Nat) = toI (numb (body.drop 1)) := rfl
      generalize toI (numb (body.drop 1)) = T at *
      generalize numb (body.drop 1) = A at *
      have e9 : ((x0.toNat : Int) == 9) = true := by simp [h9]
      have H9 : Hid (x0.toNat = 9) := h9
      clear h9
      go_wp2_with fail
      refine (Hn.out _).mono ?_
      rintro e w1 ⟨rfl, rfl⟩
      go_wp2
      refine bodyPost_ret (v := .tuple #[.agg #[.int .i64 2, .string ⟨#[]⟩, .int .i64 T, .int .i64 0, .int .u32 0], .int .i64 ((x0.toNat : Int) + 3), .int .i64 0]) (by simp [results, Tryz.results78, go_sem]) rfl ⟨fun _ => by rw [HV.out, HM.out]; rfl, fun h => ?_, HW.out _ _⟩
      rw [HI.out] at h; cases h
    · have HI : Hid (itemOfB body = false) := by show _ = _; rw [itemOfB, H2.out]; simp [Hbl.out, h9]
      have e9 : ((x0.toNat : Int) == 9) = false := beq_eq_false_iff_ne.2 (by omega)
      clear h9
      go_wp2
      refine bodyPost_ret (v := .tuple #[itemNone, .int .i64 0, .int .i64 2]) (by simp [results, Tryz.results78, go_sem, itemNone]) rfl ⟨fun h => ?_, fun _ => rfl, HW.out _ _⟩
      rw [HI.out] at h; cases h
  · by_cases h1 : y0 = 1
    · have e2 : ((y0.toNat : Int) == 2) = false := by rw [h1]; rfl
      have e1 : ((y0.toNat : Int) != 1) = false := by rw [h1]; rfl
      have H1 : Hid (body.getD 0 0 = 1) := by show _ = _; rw [Hy0.out, h1]
      clear h1 h2
      obtain ⟨y1, Hy1⟩ : ∃ y, Hid (body.getD 1 0 = y) := ⟨_, rfl⟩
      have hb1 : ∀ h, (str body)[1]'h = y1 := fun h => by rw [getD_str _ _ h, str_data]; exact Hy1.out
      have hy1 := y1.toNat_lt
      have HB : Hid (itemOfB body = isEvent body) := by show _ = _; rw [itemOfB, H1.out]; rfl
      have HE : Hid (isEvent body = decide (2 ≤ x0.toNat ∧ 1 ≤ y1.toNat ∧ y1.toNat ≤ 8 ∧ x0.toNat = 22 + y1.toNat)) := by
        show _ = _
        rw [isEvent, Hy1.out, Hbl.out]
        simp
      by_cases h23 : x0.toNat < 23
      · have HI : Hid (itemOfB body = false) := by show _ = _; rw [HB.out, HE.out]; exact decide_eq_false (by omega)
        have d23 : decide ((x0.toNat : Int) < 23) = true := by simp; omega
        clear h23
        go_wp2
        refine bodyPost_ret (v := .tuple #[itemNone, .int .i64 0, .int .i64 2]) (by simp [results, Tryz.results78, go_sem, itemNone]) rfl ⟨fun h => ?_, fun _ => rfl, HW.out _ _⟩
        rw [HI.out] at h; cases h
      · have d23 : decide ((x0.toNat : Int) < 23) = false := by simp; omega
        by_cases h30 : 30 < x0.toNat
        · have HI : Hid (itemOfB body = false) := by show _ = _; rw [HB.out, HE.out]; exact decide_eq_false (by omega)
          have d30 : decide (30 < (x0.toNat : Int)) = true := by simp; omega
          clear h23 h30
          go_wp2
          refine bodyPost_ret (v := .tuple #[itemNone, .int .i64 0, .int .i64 2]) (by simp [results, Tryz.results78, go_sem, itemNone]) rfl ⟨fun h => ?_, fun _ => rfl, HW.out _ _⟩
          rw [HI.out] at h; cases h
        · have d30 : decide (30 < (x0.toNat : Int)) = false := by simp; omega
          have hx1p : 1 < x0.toNat := by omega
          by_cases hk22 : x0.toNat = 22 + y1.toNat
          · have HI : Hid (itemOfB body = true) := by show _ = _; rw [HB.out, HE.out]; exact decide_eq_true (by omega)
            have dk : ((y1.toNat : Int) != (x0.toNat : Int) - 22) = false := by simp; omega
            have H22 : Hid (x0.toNat = 22 + y1.toNat) := hk22
            have g1 : y1.toNat + 22 ≤ x0.toNat := by omega
            have g2 : x0.toNat ≤ y1.toNat + 22 := by omega
            clear hk22
            go_wp2_with fail
            clear hb0 hb1 hxb hwC hz hd d23 d30 dk e1 e2 hk0'
            have i1 : (0 : Int) ≤ 2 + (y1.toNat : Int) := by omega
            have i2 : (2 : Int) + (y1.toNat : Int) ≤ (x0.toNat : Int) := by omega
            have i3 : (2 : Int) ≤ 2 + (y1.toNat : Int) := by omega
            have hX : (str body).extract 2 ((2 : Int) + (y1.toNat : Int)).toNat = str ((body.drop 2).take y1.toNat) := by
              rw [extract_str, str_data, show ((2 : Int) + (y1.toNat : Int)).toNat - 2 = y1.toNat from by omega]
            have Hq : Hid (∀ (z n : Int) (W : World), 0 ≤ z → 0 ≤ n → n ≤ 8 → z + n ≤ x0.toNat → Calls Tryz.prog 113 #[.string (str body), .int .i64 z, .int .i64 n] W fun e w' => e = .returned (.int .u64 (numb ((body.drop z.toNat).take n.toNat) : Nat)) ∧ w' = W) := fun z n W h1 h2 h3 h4 => by
              obtain ⟨z, rfl⟩ := Int.eq_ofNat_of_zero_le h1
              obtain ⟨n, rfl⟩ := Int.eq_ofNat_of_zero_le h2
              have := number_any (str body) z n W (by omega) (by omega) (by omega)
              rw [str_data] at this
              exact this
            have p1 : numb ((body.drop ((2 : Int) + (y1.toNat : Int)).toNat).take (8 : Int).toNat) = numb ((body.drop (2 + y1.toNat)).take 8) := by rw [show ((2 : Int) + (y1.toNat : Int)).toNat = 2 + y1.toNat from by omega]; rfl
            have p2 : numb ((body.drop ((2 : Int) + (y1.toNat : Int) + 8).toNat).take (8 : Int).toNat) = numb ((body.drop (10 + y1.toNat)).take 8) := by rw [show ((2 : Int) + (y1.toNat : Int) + 8).toNat = 10 + y1.toNat from by omega]; rfl
            have p3 : numb ((body.drop ((2 : Int) + (y1.toNat : Int) + 16).toNat).take (4 : Int).toNat) = numb ((body.drop (18 + y1.toNat)).take 4) := by rw [show ((2 : Int) + (y1.toNat : Int) + 16).toNat = 18 + y1.toNat from by omega]; rfl
            have HV : Hid (itemOfV body = .agg #[.int .i64 1, .string (str ((body.drop 2).take y1.toNat)), .int .i64 (toI (numb ((body.drop (2 + y1.toNat)).take 8))), .int .i64 (toI (numb ((body.drop (10 + y1.toNat)).take 8))), .int .u32 (numb ((body.drop (18 + y1.toNat)).take 4) : Nat)]) := by
              show itemOfV body = _
              rw [itemOfV, HI.out, H1.out, Hy1.out, List.take_of_length_le (l := body.drop (18 + y1.toNat)) (by rw [List.length_drop, Hbl.out]; omega)]
              rfl
            have hA3 : numb ((body.drop (18 + y1.toNat)).take 4) < 4294967296 := by
              have h := numb_lt ((body.drop (18 + y1.toNat)).take 4)
              have h2 : 256 ^ ((body.drop (18 + y1.toNat)).take 4).length ≤ 256 ^ 4 := Nat.pow_le_pow_right (by decide) (by rw [List.length_take]; omega)
              omega
            generalize numb ((body.drop (2 + y1.toNat)).take 8) = A1 at p1 HV
            generalize numb ((body.drop (10 + y1.toNat)).take 8) = A2 at p2 HV
            generalize numb ((body.drop (18 + y1.toNat)).take 4) = A3 at p3 HV hA3
            generalize str ((body.drop 2).take y1.toNat) = S at *
            have hw3 : IntKind.u32.wrap (A3 : Int) = A3 := by rw [IntKind.wrap_u32]; omega
            have hw1 : IntKind.i64.wrap (A1 : Int) = toI A1 := IntWalk.i64_left _
            have hw2 : IntKind.i64.wrap (A2 : Int) = toI A2 := IntWalk.i64_left _
            generalize toI A1 = T1 at *
            generalize toI A2 = T2 at *
            have hv8 : IntKind.i64.wrap (2 + (y1.toNat : Int) + 8) = 2 + (y1.toNat : Int) + 8 := by rw [IntKind.wrap_i64]; omega
            have hv16 : IntKind.i64.wrap (2 + (y1.toNat : Int) + 16) = 2 + (y1.toNat : Int) + 16 := by rw [IntKind.wrap_i64]; omega
            have hv3 : IntKind.i64.wrap ((x0.toNat : Int) + 3) = (x0.toNat : Int) + 3 := by rw [IntKind.wrap_i64]; omega
            have P1 : Hid _ := p1
            have P2 : Hid _ := p2
            have P3 : Hid _ := p3
            clear p1 p2 p3 hA3 hl hs h0 hk hC HB HE
            go_region_held3 (fun _ => True) (trivial) (first | (go_at_call 113; refine (Hq.out _ _ _ ?_ ?_ ?_ ?_).mono ?_; omega; omega; omega; omega; rintro e w' ⟨rfl, rfl⟩; (first | rw [P1.out] | rw [P2.out] | rw [P3.out])))
            go_wp2
            refine bodyPost_ret (v := .tuple #[.agg #[.int .i64 1, .string S, .int .i64 T1, .int .i64 T2, .int .u32 (A3 : Nat)], .int .i64 ((x0.toNat : Int) + 3), .int .i64 0]) (by simp [results, Tryz.results78, go_sem]) rfl ⟨fun _ => by rw [HV.out]; rfl, fun h => ?_, (HW.out _ _).drew⟩
            rw [HI.out] at h; cases h
          · have HI : Hid (itemOfB body = false) := by show _ = _; rw [HB.out, HE.out]; exact decide_eq_false (by omega)
            have dk : ((y1.toNat : Int) != (x0.toNat : Int) - 22) = true := by simp; omega
            clear h23 h30 hk22
            go_wp2
            refine bodyPost_ret (v := .tuple #[itemNone, .int .i64 0, .int .i64 2]) (by simp [results, Tryz.results78, go_sem, itemNone]) rfl ⟨fun h => ?_, fun _ => rfl, HW.out _ _⟩
            rw [HI.out] at h; cases h
    · have e2 : ((y0.toNat : Int) == 2) = false := by rw [show (2 : Int) = ((2 : Nat) : Int) from rfl, toNat_eq _ 2 (by omega)]; exact decide_eq_false h2
      have e1 : ((y0.toNat : Int) != 1) = true := by
        rw [bne, show (1 : Int) = ((1 : Nat) : Int) from rfl, toNat_eq _ 1 (by omega)]; simpa using h1
      have HI : Hid (itemOfB body = false) := by show _ = _; rw [itemOfB, Hy0.out, if_neg h1, if_neg h2]
      clear h1 h2
      go_wp2
      refine bodyPost_ret (v := .tuple #[itemNone, .int .i64 0, .int .i64 2]) (by simp [results, Tryz.results78, go_sem, itemNone]) rfl ⟨fun h => ?_, fun _ => rfl, HW.out _ _⟩
      rw [HI.out] at h; cases h

end Go.Proofs.YtcfngdnmpogaoaaGreat
