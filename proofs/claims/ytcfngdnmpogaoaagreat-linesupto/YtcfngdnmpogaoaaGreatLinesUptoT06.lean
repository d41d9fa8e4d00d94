import Derived.Test.YtcfngdnmpogaoaaGreatLinesUptoT05
import Derived.Deep.RegionWith
import Derived.Deep.RegionHeld3

namespace Go.Proofs.YtcfngdnmpogaoaaGreat
open Go.RowKit

theorem str_app (a b : List UInt8) : str a ++ str b = str (a ++ b) := by
  apply ByteArray.ext
  simp [str, ByteArray.data_append]

theorem conv_one (W : World) (g : Nat) (n : Nat) (hc : W.cell? ⟨g, 0, none⟩ = some (.int .u8 (n : Int))) (hn : n < 256) :
    (convert 30 9 (.slice (some ⟨g, 0, none⟩) 1 1)).run Tryz.prog W = .ok (.string (str [UInt8.ofNat n])) W := by
  refine run_convert_bytes_back (P := Tryz.prog) W 30 9 5 ⟨g, 0, none⟩ 1 [UInt8.ofNat n] Tryz.underlying30 Tryz.underlying5 Tryz.underlying9 (fun j hj => ?_)
  have hj : j = 0 := by simpa using hj
  subst hj
  rw [Addr.add_lit]
  have e : (UInt8.ofNat n).toNat = n := by simp [UInt8.toNat_ofNat']; omega
  simpa [e] using hc

theorem bcell {W w1 : World} {B : Nat} (hb : Below B W w1) : (∀ b o, b < B → w1.cell? ⟨b, o, none⟩ = W.cell? ⟨b, o, none⟩) ∧ (∀ b o, b < B → w1.frozen? ⟨b, o, none⟩ = W.frozen? ⟨b, o, none⟩) :=
  ⟨fun b o h => hb.cell (p := ⟨b, o, none⟩) h, fun b o h => hb.frozen (p := ⟨b, o, none⟩) h⟩

theorem ret_si {a b : ByteArray} {n : Int} (h : a = b) : Ending.returned (.tuple #[.string a, .int .i64 n]) = .returned (.tuple #[.string b, .int .i64 n]) := by rw [h]

set_option maxRecDepth 20000 in
set_option maxHeartbeats 800000 in
theorem rframe_mark (key : ByteArray) (time value : Int) (tag : Nat) (w : World) (hk : key.size ≤ 9223372036854775807) (h : isItemB 2 key value tag = true) (_ht : tag < 4294967296) :
    Calls Tryz.prog 31 #[.agg #[.int .i64 2, .string key, .int .i64 time, .int .i64 value, .int .u32 (tag : Int)]] w fun e w' =>
      e = .returned (.tuple #[.string (str (frameBytes 2 key time value tag)), .int .i64 0]) ∧ Below w.heap.size w w' := by
  have hT := toU_eq time
  go_enter Tryz.func31, Tryz.ntmps31
  go_wp2_with fail
  refine (rIsItem_any 2 key time value tag _ hk).mono ?_
  rintro e w1 ⟨rfl, hb1⟩
  have d0 : w1.cell? ⟨w.heap.size, 0, none⟩ = some (.int .i64 2) := by rw [hb1.cell (by simp)]; simp
  have d2 : w1.cell? ⟨w.heap.size, 2, none⟩ = some (.int .i64 time) := by rw [hb1.cell (by simp)]; simp
  have hbw1 : Below w.heap.size w w1 := ((Below.refl _ w).alloc (Nat.le_refl _) _).trans (hb1.mono (by simp))
  have hs1 : w.heap.size < w1.heap.size := by have := hb1.size; simp at this; omega
  clear hb1
  go_wp2_with fail
  refine (low_any (toU time) 8 _ (toU_lt _) (by omega) (by omega)).mono ?_
  rintro e w2 ⟨rfl, hb2⟩
  have d0 : w2.cell? ⟨w.heap.size, 0, none⟩ = some (.int .i64 2) := by rw [hb2.cell (by simp; omega)]; exact d0
  have hbw2 : Below w.heap.size w w2 := hbw1.trans (hb2.mono (by omega))
  have hs2 : w.heap.size < w2.heap.size := by have := hb2.size; omega
  have hcat : (⟨#[2]⟩ : ByteArray) ++ str (low (toU time) 8) = str (bodyMark time) := by rw [bodyMark]; exact str_app [2] _
  have hsz : (str (low (toU time) 8)).size = 8 := by rw [str_size, low_length]
  go_wp2_with fail
  clear hcat hsz d0 d2 hb2 hbw1
  have hbl : (str (bodyMark time)).size = (bodyMark time).length := str_size _
  have hb9 : 9 ≤ (bodyMark time).length ∧ (bodyMark time).length ≤ 30 := by simp [bodyMark, low_length]
  obtain ⟨hb9, hb30⟩ := hb9
  have hbd : (str (bodyMark time)).data.toList = bodyMark time := str_data _
  have HF : Hid (frameBytes 2 key time value tag = UInt8.ofNat (bodyMark time).length :: (bodyMark time ++ low (crc (bodyMark time)) 2)) := rfl
  generalize bodyMark time = bd at *
  refine (rcheck_any (str bd) _ (by omega)).mono ?_
  rintro e w3 ⟨rfl, rfl⟩
  rw [hbd]
  have hcl := crc_lt bd
  generalize crc bd = C at *
  clear hbd
  go_wp2_with fail
  have hbm : IntKind.u8.wrap (bd.length : Int) = bd.length := by rw [IntKind.wrap_u8]; omega
  have hwC : IntKind.u64.wrap (C : Int) = C := by rw [IntKind.wrap_u64]; omega
  have hcv := fun (W : World) (g : Nat) (h : W.cell? ⟨g, 0, none⟩ = some (.int .u8 (bd.length : Int))) => conv_one W g bd.length h (by omega)
  have hlz : (str (low C 2)).size = 2 := by rw [str_size, low_length]
  have hsx : (str [UInt8.ofNat bd.length]).size = 1 := rfl
  have hcat : (str [UInt8.ofNat bd.length] ++ str bd) ++ str (low C 2) = str (UInt8.ofNat bd.length :: (bd ++ low C 2)) := by rw [str_app, str_app]; rfl
  have hcs : (str [UInt8.ofNat bd.length] ++ str bd).size = 1 + bd.length := by rw [str_app, str_size]; simp; omega
  go_region_with (go_at_call 51; refine (low_any C 2 _ (by omega) (by omega) (by omega)).mono ?_; rintro e w' ⟨rfl, hb⟩; have hkeep := bcell hb)
  all_goals go_wp2
  all_goals go_ret2
  all_goals refine ⟨?_, ?_⟩
  all_goals first
    | exact ret_si (by rw [HF.out])
    | exact ret_si (by rw [HF.out]; exact hcat)
    | exact hbw2.trans ((((Below.refl _ _).alloc (by omega) _).drew).trans (hb.mono (by simp; omega)))
    | exact (hbw2.trans (((Below.refl _ _).drew).trans (hb.mono (by simp; omega)))).alloc (by have := hb.size; simp at this; omega) _

end Go.Proofs.YtcfngdnmpogaoaaGreat

namespace Go.Proofs.YtcfngdnmpogaoaaGreat
open Go.RowKit

theorem str_of (s : ByteArray) : str s.data.toList = s := by
  apply ByteArray.ext
  simp [str]

set_option maxRecDepth 20000 in
set_option maxHeartbeats 800000 in
theorem rframe_event (key : ByteArray) (time value : Int) (tag : Nat) (w : World) (h1 : 1 ≤ key.size) (h8 : key.size ≤ 8) (h : isItemB 1 key value tag = true) (ht : tag < 4294967296) :
    Calls Tryz.prog 31 #[.agg #[.int .i64 1, .string key, .int .i64 time, .int .i64 value, .int .u32 (tag : Int)]] w fun e w' =>
      e = .returned (.tuple #[.string (str (frameBytes 1 key time value tag)), .int .i64 0]) ∧ Below w.heap.size w w' := by
  have hT := toU_eq time
  go_enter Tryz.func31, Tryz.ntmps31
  go_wp2_with fail
  refine (rIsItem_any 1 key time value tag _ (by omega)).mono ?_
  rintro e w1 ⟨rfl, hb1⟩
  have hcell : Hid (∀ W : World, Below (w.heap.size + 1) w1 W → W.cell? ⟨w.heap.size, 0, none⟩ = some (.int .i64 1) ∧ W.cell? ⟨w.heap.size, 1, none⟩ = some (.string key) ∧ W.cell? ⟨w.heap.size, 2, none⟩ = some (.int .i64 time) ∧ W.cell? ⟨w.heap.size, 3, none⟩ = some (.int .i64 value) ∧ W.cell? ⟨w.heap.size, 4, none⟩ = some (.int .u32 (tag : Int))) := by
    intro W hW
    refine ⟨?_, ?_, ?_, ?_, ?_⟩ <;> (rw [hW.cell (by simp), hb1.cell (by simp)]; simp)
  have hbw1 : Below w.heap.size w w1 := ((Below.refl _ w).alloc (Nat.le_refl _) _).trans (hb1.mono (by simp))
  have hs1 : w.heap.size < w1.heap.size := by have := hb1.size; simp at this; omega
  clear hb1
  obtain ⟨d0, d1, d2, d3, d4⟩ := hcell.out w1 (Below.refl _ _)
  go_wp2_with fail
  refine (low_any (toU time) 8 _ (toU_lt _) (by omega) (by omega)).mono ?_
  clear d0 d1 d2 d3 d4
  rintro e w2 ⟨rfl, hb2⟩
  have hc2 : Below (w.heap.size + 1) w1 w2 := hb2.mono (by omega)
  have hs2 := hb2.size
  obtain ⟨d0, d1, d2, d3, d4⟩ := hcell.out w2 hc2
  have hsz : (str (low (toU time) 8)).size = 8 := by rw [str_size, low_length]
  have hV := toU_eq value
  go_wp2_with fail
  refine (low_any (toU value) 8 _ (toU_lt _) (by omega) (by omega)).mono ?_
  clear d0 d1 d2 d3 d4
  rintro e w4 ⟨rfl, hb4⟩
  have hc4 : Below (w.heap.size + 1) w1 w4 := hc2.trans (hb4.mono (by omega))
  have hs4 := hb4.size
  obtain ⟨d0, d1, d2, d3, d4⟩ := hcell.out w4 hc4
  go_wp2_with fail
  refine (low_any tag 4 _ (by omega) (by omega) (by omega)).mono ?_
  clear d0 d1 d2 d3 d4
  rintro e w5 ⟨rfl, hb5⟩
  have hc5 : Below (w.heap.size + 1) w1 w5 := hc4.trans (hb5.mono (by omega))
  have hs5 := hb5.size
  obtain ⟨d0, d1, d2, d3, d4⟩ := hcell.out w5 hc5
  have d1' : ∀ o : Obj, (w5.alloc o).cell? ⟨w.heap.size, 1, none⟩ = some (.string key) := fun o => (hcell.out (w5.alloc o) (hc5.alloc (by omega) o)).2.1
  have hbw2 : Below w.heap.size w w5 := hbw1.trans (hc5.mono (by omega))
  clear hb2 hb4 hb5 hc2 hc4 hc5
  have hcv0 := fun (W : World) (g : Nat) (h : W.cell? ⟨g, 0, none⟩ = some (.int .u8 (key.size : Int))) => conv_one W g key.size h (by omega)
  have hk8 : (key.size : Int) % 256 = key.size := by omega
  have hszv : (str (low (toU value) 8)).size = 8 := by rw [str_size, low_length]
  have hszt : (str (low tag 4)).size = 4 := by rw [str_size, low_length]
  have hsz1 : (str [UInt8.ofNat key.size]).size = 1 := rfl
  obtain ⟨L0, H0⟩ : ∃ L : List UInt8, Hid (L = [1, UInt8.ofNat key.size]) := ⟨_, rfl⟩
  obtain ⟨L1, H1⟩ : ∃ L : List UInt8, Hid (L = L0 ++ key.data.toList) := ⟨_, rfl⟩
  obtain ⟨L2, H2⟩ : ∃ L : List UInt8, Hid (L = L1 ++ low (toU time) 8) := ⟨_, rfl⟩
  obtain ⟨L3, H3⟩ : ∃ L : List UInt8, Hid (L = L2 ++ low (toU value) 8) := ⟨_, rfl⟩
  have q1 : ((⟨#[1]⟩ : ByteArray) ++ str [UInt8.ofNat key.size]) = str L0 := by rw [H0.out]; exact str_app [1] _
  have q2 : (str L0 ++ key) = str L1 := by rw [H1.out, ← str_app, str_of]
  have q3 : str L1 ++ str (low (toU time) 8) = str L2 := by rw [H2.out, str_app]
  have q4 : str L2 ++ str (low (toU value) 8) = str L3 := by rw [H3.out, str_app]
  have q5 : str L3 ++ str (low tag 4) = str (bodyEvent key.data.toList time value tag) := by rw [str_app, H3.out, H2.out, H1.out, H0.out, bodyEvent, keyLen]; rfl
  have hz2 : (str L0).size = 2 := by rw [H0.out]; rfl
  have hz3 : (str L1).size = 2 + key.size := by rw [str_size, H1.out, H0.out]; simp; omega
  have hz4 : (str L2).size = 10 + key.size := by rw [str_size, H2.out, H1.out, H0.out]; simp [low_length]; omega
  have hz5 : (str L3).size = 18 + key.size := by rw [str_size, H3.out, H2.out, H1.out, H0.out]; simp [low_length]; omega
  go_wp2_with fail
  clear q1 q2 q3 q4 q5 hz2 hz3 hz4 hz5 H0 H1 H2 H3 d0 d1 d2 d3 d4 d1' hcv0 hszv hszt hsz1 hV hT hsz hcell
  have hbw2 : Below w.heap.size w (w5.alloc (.cells #[.int .u8 (key.size : Int)] 5)) := hbw2.alloc (by omega) _
  have hs2 : w.heap.size < (w5.alloc (.cells #[.int .u8 (key.size : Int)] 5)).heap.size := by simp; omega
  generalize w5.alloc (.cells #[.int .u8 (key.size : Int)] 5) = w9 at *
  have hbl : (str (bodyEvent key.data.toList time value tag)).size = (bodyEvent key.data.toList time value tag).length := str_size _
  have hb9 : 9 ≤ (bodyEvent key.data.toList time value tag).length ∧ (bodyEvent key.data.toList time value tag).length ≤ 30 := by simp [bodyEvent, low_length]; omega
  obtain ⟨hb9, hb30⟩ := hb9
  have hbd : (str (bodyEvent key.data.toList time value tag)).data.toList = bodyEvent key.data.toList time value tag := str_data _
  have HF : Hid (frameBytes 1 key time value tag = UInt8.ofNat (bodyEvent key.data.toList time value tag).length :: (bodyEvent key.data.toList time value tag ++ low (crc (bodyEvent key.data.toList time value tag)) 2)) := rfl
  generalize bodyEvent key.data.toList time value tag = bd at *
  refine (rcheck_any (str bd) _ (by omega)).mono ?_
  rintro e w3 ⟨rfl, rfl⟩
  rw [hbd]
  have hcl := crc_lt bd
  generalize crc bd = C at *
  clear hbd
  go_wp2_with fail
  have hbm : IntKind.u8.wrap (bd.length : Int) = bd.length := by rw [IntKind.wrap_u8]; omega
  have hwC : IntKind.u64.wrap (C : Int) = C := by rw [IntKind.wrap_u64]; omega
  have hcv := fun (W : World) (g : Nat) (h : W.cell? ⟨g, 0, none⟩ = some (.int .u8 (bd.length : Int))) => conv_one W g bd.length h (by omega)
  have hlz : (str (low C 2)).size = 2 := by rw [str_size, low_length]
  have hsx : (str [UInt8.ofNat bd.length]).size = 1 := rfl
  have hcat : (str [UInt8.ofNat bd.length] ++ str bd) ++ str (low C 2) = str (UInt8.ofNat bd.length :: (bd ++ low C 2)) := by rw [str_app, str_app]; rfl
  have hcs : (str [UInt8.ofNat bd.length] ++ str bd).size = 1 + bd.length := by rw [str_app, str_size]; simp; omega
  go_region_with (go_at_call 51; refine (low_any C 2 _ (by omega) (by omega) (by omega)).mono ?_; rintro e w' ⟨rfl, hb⟩; have hkeep := bcell hb)
  all_goals go_wp2
  all_goals go_ret2
  all_goals refine ⟨?_, ?_⟩
  all_goals first
    | exact ret_si (by rw [HF.out])
    | exact ret_si (by rw [HF.out]; exact hcat)
    | exact hbw2.trans ((((Below.refl _ _).alloc (by omega) _).drew).trans (hb.mono (by simp; omega)))
    | exact (hbw2.trans (((Below.refl _ _).drew).trans (hb.mono (by simp; omega)))).alloc (by have := hb.size; simp at this; omega) _

end Go.Proofs.YtcfngdnmpogaoaaGreat

namespace Go.Proofs.YtcfngdnmpogaoaaGreat
open Go.RowKit

theorem two_box (w : World) (o o' : Obj) : Below w.heap.size w ((w.alloc o).alloc o') := ((Below.refl _ w).alloc (Nat.le_refl _) o).alloc (by simp) o'

set_option maxHeartbeats 1600000 in
theorem runframe_empty (s : ByteArray) (w : World) (h0 : s.size = 0) :
    Calls Tryz.prog 78 #[.string s] w fun e w' => e = .returned (.tuple #[itemNone, .int .i64 0, .int .i64 0]) ∧ Below w.heap.size w w' := by
  have hz : ((s.size : Int) == 0) = true := by simp [h0]
  go_enter Tryz.func78, Tryz.ntmps78
  go_wp2
  exact bodyPost_ret (v := .tuple #[itemNone, .int .i64 0, .int .i64 0]) (by simp [results, Tryz.results78, go_sem, itemNone]) rfl ⟨rfl, two_box _ _ _⟩

theorem getD_str (s : ByteArray) (j : Nat) (h : j < s.size) : s[j] = s.data.toList.getD j 0 := by
  rw [List.getD_eq_getElem?_getD, List.getElem?_eq_getElem (by rw [keyLen]; exact h)]
  rfl

set_option maxHeartbeats 1600000 in
theorem runframe_short (s : ByteArray) (w : World) (h0 : 0 < s.size) (hl : s.size ≤ 9223372036854775807) (hs : s.size < (s.data.toList.getD 0 0).toNat + 3) :
    Calls Tryz.prog 78 #[.string s] w fun e w' => e = .returned (.tuple #[itemNone, .int .i64 0, .int .i64 0]) ∧ Below w.heap.size w w' := by
  have hg := getD_str s 0 h0
  have hk := (s.data.toList.getD 0 0).toNat_lt
  generalize s.data.toList.getD 0 0 = x0 at *
  have hz : ((s.size : Int) == 0) = false := beq_eq_false_iff_ne.2 (by omega)
  have hd : decide ((s.size : Int) < (x0.toNat : Int) + 3) = true := by simp; omega
  go_enter Tryz.func78, Tryz.ntmps78
  go_wp2
  exact bodyPost_ret (v := .tuple #[itemNone, .int .i64 0, .int .i64 0]) (by simp [results, Tryz.results78, go_sem, itemNone]) rfl ⟨rfl, two_box _ _ _⟩

theorem extract_str (s : ByteArray) (a b : Nat) : s.extract a b = str ((s.data.toList.drop a).take (b - a)) := by
  rw [← str_of (s.extract a b)]
  congr 1
  simp [ByteArray.data_extract, List.extract_eq_take_drop]

set_option maxHeartbeats 1600000 in
theorem runframe_crc (s : ByteArray) (w : World) (h0 : 0 < s.size) (hl : s.size ≤ 9223372036854775807) (hs : (s.data.toList.getD 0 0).toNat + 3 ≤ s.size) (hc : unfCrc s.data.toList = false ∨ unfBody s.data.toList = []) :
    Calls Tryz.prog 78 #[.string s] w fun e w' => e = .returned (.tuple #[itemNone, .int .i64 0, .int .i64 2]) ∧ Below w.heap.size w w' := by
  have hg := getD_str s 0 h0
  have hk := (s.data.toList.getD 0 0).toNat_lt
  have hE : s.extract 1 ((s.data.toList.getD 0 0).toNat + 1) = str (unfBody s.data.toList) := extract_str _ _ _
  have hC := crc_lt (unfBody s.data.toList)
  have hbl : (unfBody s.data.toList).length = (s.data.toList.getD 0 0).toNat := by rw [unfBody, List.length_take, List.length_drop, keyLen]; omega
  have hq : Hid (∀ W : World, Calls Tryz.prog 113 #[.string s, .int .i64 ((s.data.toList.getD 0 0).toNat + 1 : Int), .int .i64 2] W fun e w' => e = .returned (.int .u64 (numb ((s.data.toList.drop (1 + (s.data.toList.getD 0 0).toNat)).take 2) : Nat)) ∧ w' = W) := fun W => by
    have := number_any s (1 + (s.data.toList.getD 0 0).toNat) 2 W hl (by omega) (by omega)
    rw [show ((1 + (s.data.toList.getD 0 0).toNat : Nat) : Int) = ((s.data.toList.getD 0 0).toNat : Int) + 1 from by omega] at this
    exact this
  have HK : Hid (unfCrc s.data.toList = decide (numb ((s.data.toList.drop (1 + (s.data.toList.getD 0 0).toNat)).take 2) = crc (unfBody s.data.toList))) := rfl
  have hrc := rcheck_any (str (unfBody s.data.toList))
  rw [str_data, str_size] at hrc
  have Hrc : Hid _ := hrc
  clear hrc
  generalize s.data.toList.getD 0 0 = x0 at *
  generalize unfCrc s.data.toList = cr at *
  generalize numb ((s.data.toList.drop (1 + x0.toNat)).take 2) = X at *
  generalize unfBody s.data.toList = body at *
  have hz : ((s.size : Int) == 0) = false := beq_eq_false_iff_ne.2 (by omega)
  have hd : decide ((s.size : Int) < (x0.toNat : Int) + 3) = false := by simp; omega
  have HC : Hid (cr = false ∨ body = []) := hc
  clear hc
  go_enter Tryz.func78, Tryz.ntmps78
  go_wp2_with fail
  refine (Hrc.out _ (by omega)).mono ?_
  rintro e w1 ⟨rfl, rfl⟩
  generalize crc body = C at *
  have hwC : IntKind.u64.wrap (C : Int) = C := by rw [IntKind.wrap_u64]; omega
  go_wp2_with fail
  refine (hq.out _).mono ?_
  rintro e w1 ⟨rfl, rfl⟩
  by_cases hx : X = C
  · have hb0 : body = [] := by
      rcases HC.out with h | h
      · rw [HK.out, decide_eq_false_iff_not] at h; exact absurd hx h
      · exact h
    have hk0 : x0.toNat = 0 := by rw [← hbl, hb0]; rfl
    have hxb : ((C : Int) != (X : Int)) = false := by simp [hx]
    have hk0' : ((x0.toNat : Int) == 0) = true := by simp [hk0]
    clear hx hb0 hk0 HK HC
    go_wp2
    exact bodyPost_ret (v := .tuple #[itemNone, .int .i64 0, .int .i64 2]) (by simp [results, Tryz.results78, go_sem, itemNone]) rfl ⟨rfl, two_box _ _ _⟩
  · have hxb : ((C : Int) != (X : Int)) = true := by simp; omega
    clear hx HK HC
    go_wp2
    exact bodyPost_ret (v := .tuple #[itemNone, .int .i64 0, .int .i64 2]) (by simp [results, Tryz.results78, go_sem, itemNone]) rfl ⟨rfl, two_box _ _ _⟩

end Go.Proofs.YtcfngdnmpogaoaaGreat

namespace Go.Proofs.YtcfngdnmpogaoaaGreat
open Go.RowKit

set_option maxRecDepth 20000 in
set_option maxHeartbeats 3200000 in
theorem runframe_good (s : ByteArray) (w : World) (h0 : 0 < s.size) (hl : s.size ≤ 9223372036854775807) (hs : (s.data.toList.getD 0 0).toNat + 3 ≤ s.size) (hc : unfCrc s.data.toList = true) (hne : unfBody s.data.toList ≠ []) :
    Calls Tryz.prog 78 #[.string s] w fun e w' =>
      (itemOfB (unfBody s.data.toList) = true → e = .returned (.tuple #[itemOfV (unfBody s.data.toList), .int .i64 ((s.data.toList.getD 0 0).toNat + 3 : Nat), .int .i64 0])) ∧
      (itemOfB (unfBody s.data.toList) = false → e = .returned (.tuple #[itemNone, .int .i64 0, .int .i64 2])) ∧ Below w.heap.size w w' := by
  have hg := getD_str s 0 h0
  have hk := (s.data.toList.getD 0 0).toNat_lt
  have hE : s.extract 1 ((s.data.toList.getD 0 0).toNat + 1) = str (unfBody s.data.toList) := extract_str _ _ _
  have hC := crc_lt (unfBody s.data.toList)
  have hbl : (unfBody s.data.toList).length = (s.data.toList.getD 0 0).toNat := by rw [unfBody, List.length_take, List.length_drop, keyLen]; omega
  have hq : Hid (∀ W : World, Calls Tryz.prog 113 #[.string s, .int .i64 ((s.data.toList.getD 0 0).toNat + 1 : Int), .int .i64 2] W fun e w' => e = .returned (.int .u64 (numb ((s.data.toList.drop (1 + (s.data.toList.getD 0 0).toNat)).take 2) : Nat)) ∧ w' = W) := fun W => by
    have := number_any s (1 + (s.data.toList.getD 0 0).toNat) 2 W hl (by omega) (by omega)
    rw [show ((1 + (s.data.toList.getD 0 0).toNat : Nat) : Int) = ((s.data.toList.getD 0 0).toNat : Int) + 1 from by omega] at this
    exact this
  have HK : Hid (unfCrc s.data.toList = decide (numb ((s.data.toList.drop (1 + (s.data.toList.getD 0 0).toNat)).take 2) = crc (unfBody s.data.toList))) := rfl
  have hrc := rcheck_any (str (unfBody s.data.toList))
  rw [str_data, str_size] at hrc
  have Hrc : Hid _ := hrc
  clear hrc
  generalize s.data.toList.getD 0 0 = x0 at *
  generalize unfCrc s.data.toList = cr at *
  generalize numb ((s.data.toList.drop (1 + x0.toNat)).take 2) = X at *
  generalize unfBody s.data.toList = body at *
  have hz : ((s.size : Int) == 0) = false := beq_eq_false_iff_ne.2 (by omega)
  have hd : decide ((s.size : Int) < (x0.toNat : Int) + 3) = false := by simp; omega
  have HC : Hid (cr = true) := hc
  clear hc
  go_enter Tryz.func78, Tryz.ntmps78
  go_wp2_with fail
  refine (Hrc.out _ (by omega)).mono ?_
  rintro e w1 ⟨rfl, rfl⟩
  generalize crc body = C at *
  have hwC : IntKind.u64.wrap (C : Int) = C := by rw [IntKind.wrap_u64]; omega
  go_wp2_with fail
  refine (hq.out _).mono ?_
  rintro e w1 ⟨rfl, rfl⟩
  have hx : X = C := by have := HC.out; rw [HK.out] at this; exact of_decide_eq_true this
  have hxb : ((C : Int) != (X : Int)) = false := by simp [hx]
  have hkp : 0 < body.length := by cases body with | nil => exact absurd rfl hne | cons _ _ => simp
  have hk0' : ((x0.toNat : Int) == 0) = false := beq_eq_false_iff_ne.2 (by omega)
  clear hx HK HC hne hq Hrc hE hg
  have hsb : (str body).size = x0.toNat := by rw [str_size, hbl]
  obtain ⟨y0, Hy0⟩ : ∃ y, Hid (body.getD 0 0 = y) := ⟨_, rfl⟩
  have hb0 : ∀ h, (str body)[0]'h = y0 := fun h => by rw [getD_str _ _ h, str_data]; exact Hy0.out
  have hy0 := y0.toNat_lt
  have Hbl : Hid (body.length = x0.toNat) := hbl
  have hx0p : 0 < x0.toNat := by omega
  clear hbl hkp
  have HW : Hid (∀ o o' : Obj, Below w.heap.size w ((w.alloc o).alloc o')) := fun o o' => two_box w o o'
  by_cases h2 : y0 = 2
  · have e2 : ((y0.toNat : Int) == 2) = true := by rw [h2]; rfl
    have e1 : ((y0.toNat : Int) != 1) = true := by rw [h2]; rfl
    have H2 : Hid (body.getD 0 0 = 2) := by show _ = _; rw [Hy0.out, h2]
    clear h2
    by_cases h9 : x0.toNat = 9
    · have HI : Hid (itemOfB body = true) := by show _ = _; rw [itemOfB, H2.out]; simp [Hbl.out, h9]
      have HV : Hid (itemOfV body = markVal body) := by show _ = _; rw [itemOfV, HI.out, H2.out]; rfl
      have HM : Hid (markVal body = .agg #[.int .i64 2, .string ⟨#[]⟩, .int .i64 (toI (numb (body.drop 1))), .int .i64 0, .int .u32 0]) := rfl
      have Hn : Hid (∀ W : World, Calls Tryz.prog 113 #[.string (str body), .int .i64 1, .int .i64 8] W fun e w' => e = .returned (.int .u64 (numb (body.drop 1) : Nat)) ∧ w' = W) := fun W => by
        have hn := number_any (str body) 1 8 W (by omega) (by omega) (by omega)
        rw [str_data, List.take_of_length_le (by simp [Hbl.out, h9])] at hn
        exact hn
      have hw : IntKind.i64.wrap (numb (body.drop 1) : Nat) = toI (numb (body.drop 1)) := IntWalk.i64_left _
      have hw' : wrap64 (numb (body.drop 1) : Nat) = toI (numb (body.drop 1)) := rfl
      generalize toI (numb (body.drop 1)) = T at *
      generalize numb (body.drop 1) = A at *
      have e9 : ((x0.toNat : Int) == 9) = true := by simp [h9]
      have H9 : Hid (x0.toNat = 9) := h9
      clear h9
      go_wp2_with fail
      refine (Hn.out _).mono ?_
      rintro e w1 ⟨rfl, rfl⟩
      go_wp2
      refine bodyPost_ret (v := .tuple #[.agg #[.int .i64 2, .string ⟨#[]⟩, .int .i64 T, .int .i64 0, .int .u32 0], .int .i64 ((x0.toNat : Int) + 3), .int .i64 0]) (by simp [results, Tryz.results78, go_sem]) rfl ⟨fun _ => by rw [HV.out, HM.out]; rfl, fun h => ?_, HW.out _ _⟩
      rw [HI.out] at h; cases h
    · have HI : Hid (itemOfB body = false) := by show _ = _; rw [itemOfB, H2.out]; simp [Hbl.out, h9]
      have e9 : ((x0.toNat : Int) == 9) = false := beq_eq_false_iff_ne.2 (by omega)
      clear h9
      go_wp2
      refine bodyPost_ret (v := .tuple #[itemNone, .int .i64 0, .int .i64 2]) (by simp [results, Tryz.results78, go_sem, itemNone]) rfl ⟨fun h => ?_, fun _ => rfl, HW.out _ _⟩
      rw [HI.out] at h; cases h
  · by_cases h1 : y0 = 1
    · have e2 : ((y0.toNat : Int) == 2) = false := by rw [h1]; rfl
      have e1 : ((y0.toNat : Int) != 1) = false := by rw [h1]; rfl
      have H1 : Hid (body.getD 0 0 = 1) := by show _ = _; rw [Hy0.out, h1]
      clear h1 h2
      obtain ⟨y1, Hy1⟩ : ∃ y, Hid (body.getD 1 0 = y) := ⟨_, rfl⟩
      have hb1 : ∀ h, (str body)[1]'h = y1 := fun h => by rw [getD_str _ _ h, str_data]; exact Hy1.out
      have hy1 := y1.toNat_lt
      have HB : Hid (itemOfB body = isEvent body) := by show _ = _; rw [itemOfB, H1.out]; rfl
      have HE : Hid (isEvent body = decide (2 ≤ x0.toNat ∧ 1 ≤ y1.toNat ∧ y1.toNat ≤ 8 ∧ x0.toNat = 22 + y1.toNat)) := by
        show _ = _
        rw [isEvent, Hy1.out, Hbl.out]
        simp
      by_cases h23 : x0.toNat < 23
      · have HI : Hid (itemOfB body = false) := by show _ = _; rw [HB.out, HE.out]; exact decide_eq_false (by omega)
        have d23 : decide ((x0.toNat : Int) < 23) = true := by simp; omega
        clear h23
        go_wp2
        refine bodyPost_ret (v := .tuple #[itemNone, .int .i64 0, .int .i64 2]) (by simp [results, Tryz.results78, go_sem, itemNone]) rfl ⟨fun h => ?_, fun _ => rfl, HW.out _ _⟩
        rw [HI.out] at h; cases h
      · have d23 : decide ((x0.toNat : Int) < 23) = false := by simp; omega
        by_cases h30 : 30 < x0.toNat
        · have HI : Hid (itemOfB body = false) := by show _ = _; rw [HB.out, HE.out]; exact decide_eq_false (by omega)
          have d30 : decide (30 < (x0.toNat : Int)) = true := by simp; omega
          clear h23 h30
          go_wp2
          refine bodyPost_ret (v := .tuple #[itemNone, .int .i64 0, .int .i64 2]) (by simp [results, Tryz.results78, go_sem, itemNone]) rfl ⟨fun h => ?_, fun _ => rfl, HW.out _ _⟩
          rw [HI.out] at h; cases h
        · have d30 : decide (30 < (x0.toNat : Int)) = false := by simp; omega
          have hx1p : 1 < x0.toNat := by omega
          by_cases hk22 : x0.toNat = 22 + y1.toNat
          · have HI : Hid (itemOfB body = true) := by show _ = _; rw [HB.out, HE.out]; exact decide_eq_true (by omega)
            have dk : ((y1.toNat : Int) != (x0.toNat : Int) - 22) = false := by simp; omega
            have H22 : Hid (x0.toNat = 22 + y1.toNat) := hk22
            have g1 : y1.toNat + 22 ≤ x0.toNat := by omega
            have g2 : x0.toNat ≤ y1.toNat + 22 := by omega
            clear hk22
            go_wp2_with fail
            clear hb0 hb1 hxb hwC hz hd d23 d30 dk e1 e2 hk0'
            have i1 : (0 : Int) ≤ 2 + (y1.toNat : Int) := by omega
            have i2 : (2 : Int) + (y1.toNat : Int) ≤ (x0.toNat : Int) := by omega
            have i3 : (2 : Int) ≤ 2 + (y1.toNat : Int) := by omega
            have hX : (str body).extract 2 ((2 : Int) + (y1.toNat : Int)).toNat = str ((body.drop 2).take y1.toNat) := by
              rw [extract_str, str_data, show ((2 : Int) + (y1.toNat : Int)).toNat - 2 = y1.toNat from by omega]
            have Hq : Hid (∀ (z n : Int) (W : World), 0 ≤ z → 0 ≤ n → n ≤ 8 → z + n ≤ x0.toNat → Calls Tryz.prog 113 #[.string (str body), .int .i64 z, .int .i64 n] W fun e w' => e = .returned (.int .u64 (numb ((body.drop z.toNat).take n.toNat) : Nat)) ∧ w' = W) := fun z n W h1 h2 h3 h4 => by
              obtain ⟨z, rfl⟩ := Int.eq_ofNat_of_zero_le h1
              obtain ⟨n, rfl⟩ := Int.eq_ofNat_of_zero_le h2
              have := number_any (str body) z n W (by omega) (by omega) (by omega)
              rw [str_data] at this
              exact this
            have p1 : numb ((body.drop ((2 : Int) + (y1.toNat : Int)).toNat).take (8 : Int).toNat) = numb ((body.drop (2 + y1.toNat)).take 8) := by rw [show ((2 : Int) + (y1.toNat : Int)).toNat = 2 + y1.toNat from by omega]; rfl
            have p2 : numb ((body.drop ((2 : Int) + (y1.toNat : Int) + 8).toNat).take (8 : Int).toNat) = numb ((body.drop (10 + y1.toNat)).take 8) := by rw [show ((2 : Int) + (y1.toNat : Int) + 8).toNat = 10 + y1.toNat from by omega]; rfl
            have p3 : numb ((body.drop ((2 : Int) + (y1.toNat : Int) + 16).toNat).take (4 : Int).toNat) = numb ((body.drop (18 + y1.toNat)).take 4) := by rw [show ((2 : Int) + (y1.toNat : Int) + 16).toNat = 18 + y1.toNat from by omega]; rfl
            have HV : Hid (itemOfV body = .agg #[.int .i64 1, .string (str ((body.drop 2).take y1.toNat)), .int .i64 (toI (numb ((body.drop (2 + y1.toNat)).take 8))), .int .i64 (toI (numb ((body.drop (10 + y1.toNat)).take 8))), .int .u32 (numb ((body.drop (18 + y1.toNat)).take 4) : Nat)]) := by
              show itemOfV body = _
              rw [itemOfV, HI.out, H1.out, Hy1.out, List.take_of_length_le (l := body.drop (18 + y1.toNat)) (by rw [List.length_drop, Hbl.out]; omega)]
              rfl
            have hA3 : numb ((body.drop (18 + y1.toNat)).take 4) < 4294967296 := by
              have h := numb_lt ((body.drop (18 + y1.toNat)).take 4)
              have h2 : 256 ^ ((body.drop (18 + y1.toNat)).take 4).length ≤ 256 ^ 4 := Nat.pow_le_pow_right (by decide) (by rw [List.length_take]; omega)
              omega
            generalize numb ((body.drop (2 + y1.toNat)).take 8) = A1 at p1 HV
            generalize numb ((body.drop (10 + y1.toNat)).take 8) = A2 at p2 HV
            generalize numb ((body.drop (18 + y1.toNat)).take 4) = A3 at p3 HV hA3
            generalize str ((body.drop 2).take y1.toNat) = S at *
            have hw3 : IntKind.u32.wrap (A3 : Int) = A3 := by rw [IntKind.wrap_u32]; omega
            have hw1 : IntKind.i64.wrap (A1 : Int) = toI A1 := IntWalk.i64_left _
            have hw2 : IntKind.i64.wrap (A2 : Int) = toI A2 := IntWalk.i64_left _
            generalize toI A1 = T1 at *
            generalize toI A2 = T2 at *
            have hv8 : IntKind.i64.wrap (2 + (y1.toNat : Int) + 8) = 2 + (y1.toNat : Int) + 8 := by rw [IntKind.wrap_i64]; omega
            have hv16 : IntKind.i64.wrap (2 + (y1.toNat : Int) + 16) = 2 + (y1.toNat : Int) + 16 := by rw [IntKind.wrap_i64]; omega
            have hv3 : IntKind.i64.wrap ((x0.toNat : Int) + 3) = (x0.toNat : Int) + 3 := by rw [IntKind.wrap_i64]; omega
            have P1 : Hid _ := p1
            have P2 : Hid _ := p2
            have P3 : Hid _ := p3
            clear p1 p2 p3 hA3 hl hs h0 hk hC HB HE
            go_region_held3 (fun _ => True) (trivial) (first | (go_at_call 113; refine (Hq.out _ _ _ ?_ ?_ ?_ ?_).mono ?_; omega; omega; omega; omega; rintro e w' ⟨rfl, rfl⟩; (first | rw [P1.out] | rw [P2.out] | rw [P3.out])))
            go_wp2
            refine bodyPost_ret (v := .tuple #[.agg #[.int .i64 1, .string S, .int .i64 T1, .int .i64 T2, .int .u32 (A3 : Nat)], .int .i64 ((x0.toNat : Int) + 3), .int .i64 0]) (by simp [results, Tryz.results78, go_sem]) rfl ⟨fun _ => by rw [HV.out]; rfl, fun h => ?_, (HW.out _ _).drew⟩
            rw [HI.out] at h; cases h
          · have HI : Hid (itemOfB body = false) := by show _ = _; rw [HB.out, HE.out]; exact decide_eq_false (by omega)
            have dk : ((y1.toNat : Int) != (x0.toNat : Int) - 22) = true := by simp; omega
            clear h23 h30 hk22
            go_wp2
            refine bodyPost_ret (v := .tuple #[itemNone, .int .i64 0, .int .i64 2]) (by simp [results, Tryz.results78, go_sem, itemNone]) rfl ⟨fun h => ?_, fun _ => rfl, HW.out _ _⟩
            rw [HI.out] at h; cases h
    · have e2 : ((y0.toNat : Int) == 2) = false := by rw [show (2 : Int) = ((2 : Nat) : Int) from rfl, toNat_eq _ 2 (by omega)]; exact decide_eq_false h2
      have e1 : ((y0.toNat : Int) != 1) = true := by
        rw [bne, show (1 : Int) = ((1 : Nat) : Int) from rfl, toNat_eq _ 1 (by omega)]; simpa using h1
      have HI : Hid (itemOfB body = false) := by show _ = _; rw [itemOfB, Hy0.out, if_neg h1, if_neg h2]
      clear h1 h2
      go_wp2
      refine bodyPost_ret (v := .tuple #[itemNone, .int .i64 0, .int .i64 2]) (by simp [results, Tryz.results78, go_sem, itemNone]) rfl ⟨fun h => ?_, fun _ => rfl, HW.out _ _⟩
      rw [HI.out] at h; cases h

end Go.Proofs.YtcfngdnmpogaoaaGreat

namespace Go.Proofs.YtcfngdnmpogaoaaGreat
open Go.RowKit

def unfV (l : List UInt8) : Value := if unfShort l then itemNone else if unfOk l then itemOfV (unfBody l) else itemNone
def unfN (l : List UInt8) : Int := if unfShort l then 0 else if unfOk l then (((l.getD 0 0).toNat + 3 : Nat) : Int) else 0
def unfE (l : List UInt8) : Int := if unfShort l then 0 else if unfOk l then 0 else 2

theorem itemOfV_cells (body : List UInt8) : itemCells (itemOfV body) := by
  unfold itemOfV
  split
  · split
    · exact eventVal_cells _ _
    · exact markVal_cells _
  · exact itemNone_cells
theorem unfV_cells (l : List UInt8) : itemCells (unfV l) := by
  unfold unfV
  split
  · exact itemNone_cells
  · split
    · exact itemOfV_cells _
    · exact itemNone_cells

theorem unframe_any (b off cap : Nat) (l : List UInt8) (w : World) (hc : Bytes w b off l) (hl : l.length ≤ 9223372036854775807) (hcap : l.length ≤ cap) :
    Calls Tryz.prog 16 #[.slice (some ⟨b, off, none⟩) l.length cap] w fun e w' => e = .returned (.tuple #[unfV l, .int .i64 (unfN l), .int .i64 (unfE l)]) ∧ Below w.heap.size w w' := by
  by_cases h0 : 0 < l.length
  · by_cases hs : l.length < (l.getD 0 0).toNat + 3
    · have hsh : unfShort l = true := decide_eq_true hs
      have e1 : unfV l = itemNone := by rw [unfV, hsh]; rfl
      have e2 : unfN l = 0 := by rw [unfN, hsh]; rfl
      have e3 : unfE l = 0 := by rw [unfE, hsh]; rfl
      rw [e1, e2, e3]
      exact unframe_short b off cap l w hc h0 hl hs
    · have hsh : unfShort l = false := decide_eq_false hs
      refine (unframe_long b off cap l w hc h0 hl hcap (by omega)).mono ?_
      rintro e w' ⟨h1, h2, hb⟩
      refine ⟨?_, hb⟩
      cases hok : unfOk l with
      | true =>
        have e1 : unfV l = itemOfV (unfBody l) := by rw [unfV, hsh, hok]; rfl
        have e2 : unfN l = (((l.getD 0 0).toNat + 3 : Nat) : Int) := by rw [unfN, hsh, hok]; rfl
        have e3 : unfE l = 0 := by rw [unfE, hsh, hok]; rfl
        rw [e1, e2, e3]; exact (h1 hok).2
      | false =>
        have e1 : unfV l = itemNone := by rw [unfV, hsh, hok]; rfl
        have e2 : unfN l = 0 := by rw [unfN, hsh, hok]; rfl
        have e3 : unfE l = 2 := by rw [unfE, hsh, hok]; rfl
        rw [e1, e2, e3]; exact h2 hok
  · have hl0 : l = [] := List.eq_nil_of_length_eq_zero (by omega)
    subst hl0
    exact unframe_empty _ cap w

theorem runframe_any (s : ByteArray) (w : World) (hl : s.size ≤ 9223372036854775807) :
    Calls Tryz.prog 78 #[.string s] w fun e w' => e = .returned (.tuple #[unfV s.data.toList, .int .i64 (unfN s.data.toList), .int .i64 (unfE s.data.toList)]) ∧ Below w.heap.size w w' := by
  have hkl := keyLen s
  by_cases h0 : 0 < s.size
  · by_cases hs : s.size < (s.data.toList.getD 0 0).toNat + 3
    · have hsh : unfShort s.data.toList = true := decide_eq_true (by omega)
      have e1 : unfV s.data.toList = itemNone := by rw [unfV, hsh]; rfl
      have e2 : unfN s.data.toList = 0 := by rw [unfN, hsh]; rfl
      have e3 : unfE s.data.toList = 0 := by rw [unfE, hsh]; rfl
      rw [e1, e2, e3]
      exact runframe_short s w h0 hl hs
    · have hsh : unfShort s.data.toList = false := decide_eq_false (by omega)
      have hbad : unfOk s.data.toList = false → unfV s.data.toList = itemNone ∧ unfN s.data.toList = 0 ∧ unfE s.data.toList = 2 := fun hok =>
        ⟨by rw [unfV, hsh, hok]; rfl, by rw [unfN, hsh, hok]; rfl, by rw [unfE, hsh, hok]; rfl⟩
      cases hcr : unfCrc s.data.toList with
      | false =>
        obtain ⟨e1, e2, e3⟩ := hbad (by rw [unfOk, hcr]; rfl)
        rw [e1, e2, e3]
        exact runframe_crc s w h0 hl (by omega) (.inl hcr)
      | true =>
        by_cases hne : unfBody s.data.toList = []
        · obtain ⟨e1, e2, e3⟩ := hbad (by rw [unfOk, hcr, hne]; rfl)
          rw [e1, e2, e3]
          exact runframe_crc s w h0 hl (by omega) (.inr hne)
        · refine (runframe_good s w h0 hl (by omega) hcr hne).mono ?_
          rintro e w' ⟨h1, h2, hb⟩
          refine ⟨?_, hb⟩
          cases hib : itemOfB (unfBody s.data.toList) with
          | true =>
            have hok : unfOk s.data.toList = true := by rw [unfOk, hcr, hib]; rfl
            have e1 : unfV s.data.toList = itemOfV (unfBody s.data.toList) := by rw [unfV, hsh, hok]; rfl
            have e2 : unfN s.data.toList = (((s.data.toList.getD 0 0).toNat + 3 : Nat) : Int) := by rw [unfN, hsh, hok]; rfl
            have e3 : unfE s.data.toList = 0 := by rw [unfE, hsh, hok]; rfl
            rw [e1, e2, e3]; exact h1 hib
          | false =>
            obtain ⟨e1, e2, e3⟩ := hbad (by rw [unfOk, hcr, hib]; rfl)
            rw [e1, e2, e3]; exact h2 hib
  · have hl0 : s.data.toList = [] := List.eq_nil_of_length_eq_zero (by omega)
    rw [hl0]
    exact runframe_empty s w (by omega)

end Go.Proofs.YtcfngdnmpogaoaaGreat
