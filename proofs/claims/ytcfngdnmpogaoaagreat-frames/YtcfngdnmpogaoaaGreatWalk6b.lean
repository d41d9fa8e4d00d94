import Derived.Test.YtcfngdnmpogaoaaGreatWalk6
namespace Go.Proofs.YtcfngdnmpogaoaaGreat
open Go.RowKit

theorem str_of (s : ByteArray) : str s.data.toList = s := by
  apply ByteArray.ext
  simp [str]

set_option maxRecDepth 20000 in
set_option maxHeartbeats 800000 in
theorem rframe_event (key : ByteArray) (time value : Int) (tag : Nat) (w : World) (h1 : 1 ≤ key.size) (h8 : key.size ≤ 8) (h : isItemB 1 key value tag = true) (ht : tag < 4294967296) :
    Calls Tryz.prog 31 #[.agg #[.int .i64 1, .string key, .int .i64 time, .int .i64 value, .int .u32 (tag : Int)]] w fun e w' =>
      e = .returned (.tuple #[.string (str (frameBytes 1 key time value tag)), .int .i64 0]) ∧ Below w.heap.size w w' := by
  have hT := toU_eq time
  go_enter Tryz.func31, Tryz.ntmps31
  go_wp2_with fail
  refine (rIsItem_any 1 key time value tag _ (by omega)).mono ?_
  rintro e w1 ⟨rfl, hb1⟩
  have hcell : Hid (∀ W : World, Below (w.heap.size + 1) w1 W → W.cell? ⟨w.heap.size, 0, none⟩ = some (.int .i64 1) ∧ W.cell? ⟨w.heap.size, 1, none⟩ = some (.string key) ∧ W.cell? ⟨w.heap.size, 2, none⟩ = some (.int .i64 time) ∧ W.cell? ⟨w.heap.size, 3, none⟩ = some (.int .i64 value) ∧ W.cell? ⟨w.heap.size, 4, none⟩ = some (.int .u32 (tag : Int))) := by
    intro W hW
    refine ⟨?_, ?_, ?_, ?_, ?_⟩ <;> (rw [hW.cell (by simp), hb1.cell (by simp)]; simp)
  have hbw1 : Below w.heap.size w w1 := ((Below.refl _ w).alloc (Nat.le_refl _) _).trans (hb1.mono (by simp))
  have hs1 : w.heap.size < w1.heap.size := by have := hb1.size; simp at this; omega
  clear hb1
  obtain ⟨d0, d1, d2, d3, d4⟩ := hcell.out w1 (Below.refl _ _)
  go_wp2_with fail
  refine (low_any (toU time) 8 _ (toU_lt _) (by omega) (by omega)).mono ?_
  clear d0 d1 d2 d3 d4
  rintro e w2 ⟨rfl, hb2⟩
  have hc2 : Below (w.heap.size + 1) w1 w2 := hb2.mono (by omega)
  have hs2 := hb2.size
  obtain ⟨d0, d1, d2, d3, d4⟩ := hcell.out w2 hc2
  have hsz : (str (low (toU time) 8)).size = 8 := by rw [str_size, low_length]
  have hV := toU_eq value
  go_wp2_with fail
  refine (low_any (toU value) 8 _ (toU_lt _) (by omega) (by omega)).mono ?_
  clear d0 d1 d2 d3 d4
  rintro e w4 ⟨rfl, hb4⟩
  have hc4 : Below (w.heap.size + 1) w1 w4 := hc2.trans (hb4.mono (by omega))
  have hs4 := hb4.size
  obtain ⟨d0, d1, d2, d3, d4⟩ := hcell.out w4 hc4
  go_wp2_with fail
  refine (low_any tag 4 _ (by omega) (by omega) (by omega)).mono ?_
  clear d0 d1 d2 d3 d4
  rintro e w5 ⟨rfl, hb5⟩
  have hc5 : Below (w.heap.size + 1) w1 w5 := hc4.trans (hb5.mono (by omega))
  have hs5 := hb5.size
  obtain ⟨d0, d1, d2, d3, d4⟩ := hcell.out w5 hc5
  have d1' : ∀ o : Obj, (w5.alloc o).cell? ⟨w.heap.size, 1, none⟩ = some (.string key) := fun o => (hcell.out (w5.alloc o) (hc5.alloc (by omega) o)).2.1
  have hbw2 : Below w.heap.size w w5 := hbw1.trans (hc5.mono (by omega))
  clear hb2 hb4 hb5 hc2 hc4 hc5
  have hcv0 := fun (W : World) (g : Nat) (h : W.cell? ⟨g, 0, none⟩ = some (.int .u8 (key.size : Int))) => conv_one W g key.size h (by omega)
  have hk8 : (key.size : Int) % 256 = key.size := by omega
  have hszv : (str (low (toU value) 8)).size = 8 := by rw [str_size, low_length]
  have hszt : (str (low tag 4)).size = 4 := by rw [str_size, low_length]
  have hsz1 : (str [UInt8.ofNat key.size]).size = 1 := rfl
  obtain ⟨L0, H0⟩ : ∃ L : List UInt8, Hid (L = [1, UInt8.ofNat key.size]) := ⟨_, rfl⟩
  obtain ⟨L1, H1⟩ : ∃ L : List UInt8, Hid (L = L0 ++ key.data.toList) := ⟨_, rfl⟩
  obtain ⟨L2, H2⟩ : ∃ L : List UInt8, Hid (L = L1 ++ low (toU time) 8) := ⟨_, rfl⟩
  obtain ⟨L3, H3⟩ : ∃ L : List UInt8, Hid (L = L2 ++ low (toU value) 8) := ⟨_, rfl⟩
  have q1 : ((⟨#[1]⟩ : ByteArray) ++ str [UInt8.ofNat key.size]) = str L0 := by rw [H0.out]; exact str_app [1] _
  have q2 : (str L0 ++ key) = str L1 := by rw [H1.out, ← str_app, str_of]
  have q3 : str L1 ++ str (low (toU time) 8) = str L2 := by rw [H2.out, str_app]
  have q4 : str L2 ++ str (low (toU value) 8) = str L3 := by rw [H3.out, str_app]
  have q5 : str L3 ++ str (low tag 4) = str (bodyEvent key.data.toList time value tag) := by rw [str_app, H3.out, H2.out, H1.out, H0.out, bodyEvent, keyLen]; rfl
  have hz2 : (str L0).size = 2 := by rw [H0.out]; rfl
  have hz3 : (str L1).size = 2 + key.size := by rw [str_size, H1.out, H0.out]; simp; omega
  have hz4 : (str L2).size = 10 + key.size := by rw [str_size, H2.out, H1.out, H0.out]; simp [low_length]; omega
  have hz5 : (str L3).size = 18 + key.size := by rw [str_size, H3.out, H2.out, H1.out, H0.out]; simp [low_length]; omega
  go_wp2_with fail
  clear q1 q2 q3 q4 q5 hz2 hz3 hz4 hz5 H0 H1 H2 H3 d0 d1 d2 d3 d4 d1' hcv0 hszv hszt hsz1 hV hT hsz hcell
  have hbw2 : Below w.heap.size w (w5.alloc (.cells #[.int .u8 (key.size : Int)] 5)) := hbw2.alloc (by omega) _
  have hs2 : w.heap.size < (w5.alloc (.cells #[.int .u8 (key.size : Int)] 5)).heap.size := by simp; omega
  generalize w5.alloc (.cells #[.int .u8 (key.size : Int)] 5) = w9 at *
  have hbl : (str (bodyEvent key.data.toList time value tag)).size = (bodyEvent key.data.toList time value tag).length := str_size _
  have hb9 : 9 ≤ (bodyEvent key.data.toList time value tag).length ∧ (bodyEvent key.data.toList time value tag).length ≤ 30 := by simp [bodyEvent, low_length]; omega
  obtain ⟨hb9, hb30⟩ := hb9
  have hbd : (str (bodyEvent key.data.toList time value tag)).data.toList = bodyEvent key.data.toList time value tag := str_data _
  have HF : Hid (frameBytes 1 key time value tag = UInt8.ofNat (bodyEvent key.data.toList time value tag).length :: (bodyEvent key.data.toList time value tag ++ low (crc (bodyEvent key.data.toList time value tag)) 2)) := rfl
  generalize bodyEvent key.data.toList time value tag = bd at *
  refine (rcheck_any (str bd) _ (by omega)).mono ?_
  rintro e w3 ⟨rfl, rfl⟩
  rw [hbd]
  have hcl := crc_lt bd
  generalize crc bd = C at *
  clear hbd
  go_wp2_with fail
  have hbm : IntKind.u8.wrap (bd.length : Int) = bd.length := by rw [IntKind.wrap_u8]; omega
  have hwC : IntKind.u64.wrap (C : Int) = C := by rw [IntKind.wrap_u64]; omega
  have hcv := fun (W : World) (g : Nat) (h : W.cell? ⟨g, 0, none⟩ = some (.int .u8 (bd.length : Int))) => conv_one W g bd.length h (by omega)
  have hlz : (str (low C 2)).size = 2 := by rw [str_size, low_length]
  have hsx : (str [UInt8.ofNat bd.length]).size = 1 := rfl
  have hcat : (str [UInt8.ofNat bd.length] ++ str bd) ++ str (low C 2) = str (UInt8.ofNat bd.length :: (bd ++ low C 2)) := by rw [str_app, str_app]; rfl
  have hcs : (str [UInt8.ofNat bd.length] ++ str bd).size = 1 + bd.length := by rw [str_app, str_size]; simp; omega
  go_region_with (go_at_call 51; refine (low_any C 2 _ (by omega) (by omega) (by omega)).mono ?_; rintro e w' ⟨rfl, hb⟩; have hkeep := bcell hb)
  all_goals go_wp2
  all_goals go_ret2
  all_goals refine ⟨?_, ?_⟩
  all_goals first
    | exact ret_si (by rw [HF.out])
    | exact ret_si (by rw [HF.out]; exact hcat)
    | exact hbw2.trans ((((Below.refl _ _).alloc (by omega) _).drew).trans (hb.mono (by simp; omega)))
    | exact (hbw2.trans (((Below.refl _ _).drew).trans (hb.mono (by simp; omega)))).alloc (by have := hb.size; simp at this; omega) _

end Go.Proofs.YtcfngdnmpogaoaaGreat
