import Derived.Test.YtcfngdnmpogaoaaGreatWalk5
import Derived.Deep.RegionWith
namespace Go.Proofs.YtcfngdnmpogaoaaGreat
open Go.RowKit

theorem str_app (a b : List UInt8) : str a ++ str b = str (a ++ b) := by
  apply ByteArray.ext
  simp [str, ByteArray.data_append]

theorem conv_one (W : World) (g : Nat) (n : Nat) (hc : W.cell? ⟨g, 0, none⟩ = some (.int .u8 (n : Int))) (hn : n < 256) :
    (convert 30 9 (.slice (some ⟨g, 0, none⟩) 1 1)).run Tryz.prog W = .ok (.string (str [UInt8.ofNat n])) W := by
  refine run_convert_bytes_back (P := Tryz.prog) W 30 9 5 ⟨g, 0, none⟩ 1 [UInt8.ofNat n] Tryz.underlying30 Tryz.underlying5 Tryz.underlying9 (fun j hj => ?_)
  have hj : j = 0 := by simpa using hj
  subst hj
  rw [Addr.add_lit]
  have e : (UInt8.ofNat n).toNat = n := by simp [UInt8.toNat_ofNat']; omega
  simpa [e] using hc

theorem bcell {W w1 : World} {B : Nat} (hb : Below B W w1) : (∀ b o, b < B → w1.cell? ⟨b, o, none⟩ = W.cell? ⟨b, o, none⟩) ∧ (∀ b o, b < B → w1.frozen? ⟨b, o, none⟩ = W.frozen? ⟨b, o, none⟩) :=
  ⟨fun b o h => hb.cell (p := ⟨b, o, none⟩) h, fun b o h => hb.frozen (p := ⟨b, o, none⟩) h⟩

theorem ret_si {a b : ByteArray} {n : Int} (h : a = b) : Ending.returned (.tuple #[.string a, .int .i64 n]) = .returned (.tuple #[.string b, .int .i64 n]) := by rw [h]

set_option maxRecDepth 20000 in
set_option maxHeartbeats 800000 in
theorem rframe_mark (key : ByteArray) (time value : Int) (tag : Nat) (w : World) (hk : key.size ≤ 9223372036854775807) (h : isItemB 2 key value tag = true) (_ht : tag < 4294967296) :
    Calls Tryz.prog 31 #[.agg #[.int .i64 2, .string key, .int .i64 time, .int .i64 value, .int .u32 (tag : Int)]] w fun e w' =>
      e = .returned (.tuple #[.string (str (frameBytes 2 key time value tag)), .int .i64 0]) ∧ Below w.heap.size w w' := by
  have hT := toU_eq time
  go_enter Tryz.func31, Tryz.ntmps31
  go_wp2_with fail
  refine (rIsItem_any 2 key time value tag _ hk).mono ?_
  rintro e w1 ⟨rfl, hb1⟩
  have d0 : w1.cell? ⟨w.heap.size, 0, none⟩ = some (.int .i64 2) := by rw [hb1.cell (by simp)]; simp
  have d2 : w1.cell? ⟨w.heap.size, 2, none⟩ = some (.int .i64 time) := by rw [hb1.cell (by simp)]; simp
  have hbw1 : Below w.heap.size w w1 := ((Below.refl _ w).alloc (Nat.le_refl _) _).trans (hb1.mono (by simp))
  have hs1 : w.heap.size < w1.heap.size := by have := hb1.size; simp at this; omega
  clear hb1
  go_wp2_with fail
  refine (low_any (toU time) 8 _ (toU_lt _) (by omega) (by omega)).mono ?_
  rintro e w2 ⟨rfl, hb2⟩
  have d0 : w2.cell? ⟨w.heap.size, 0, none⟩ = some (.int .i64 2) := by rw [hb2.cell (by simp; omega)]; exact d0
  have hbw2 : Below w.heap.size w w2 := hbw1.trans (hb2.mono (by omega))
  have hs2 : w.heap.size < w2.heap.size := by have := hb2.size; omega
  have hcat : (⟨#[2]⟩ : ByteArray) ++ str (low (toU time) 8) = str (bodyMark time) := by rw [bodyMark]; exact str_app [2] _
  have hsz : (str (low (toU time) 8)).size = 8 := by rw [str_size, low_length]
  go_wp2_with fail
  clear hcat hsz d0 d2 hb2 hbw1
  have hbl : (str (bodyMark time)).size = (bodyMark time).length := str_size _
  have hb9 : 9 ≤ (bodyMark time).length ∧ (bodyMark time).length ≤ 30 := by simp [bodyMark, low_length]
  obtain ⟨hb9, hb30⟩ := hb9
  have hbd : (str (bodyMark time)).data.toList = bodyMark time := str_data _
  have HF : Hid (frameBytes 2 key time value tag = UInt8.ofNat (bodyMark time).length :: (bodyMark time ++ low (crc (bodyMark time)) 2)) := rfl
  generalize bodyMark time = bd at *
  refine (rcheck_any (str bd) _ (by omega)).mono ?_
  rintro e w3 ⟨rfl, rfl⟩
  rw [hbd]
  have hcl := crc_lt bd
  generalize crc bd = C at *
  clear hbd
  go_wp2_with fail
  have hbm : IntKind.u8.wrap (bd.length : Int) = bd.length := by rw [IntKind.wrap_u8]; omega
  have hwC : IntKind.u64.wrap (C : Int) = C := by rw [IntKind.wrap_u64]; omega
  have hcv := fun (W : World) (g : Nat) (h : W.cell? ⟨g, 0, none⟩ = some (.int .u8 (bd.length : Int))) => conv_one W g bd.length h (by omega)
  have hlz : (str (low C 2)).size = 2 := by rw [str_size, low_length]
  have hsx : (str [UInt8.ofNat bd.length]).size = 1 := rfl
  have hcat : (str [UInt8.ofNat bd.length] ++ str bd) ++ str (low C 2) = str (UInt8.ofNat bd.length :: (bd ++ low C 2)) := by rw [str_app, str_app]; rfl
  have hcs : (str [UInt8.ofNat bd.length] ++ str bd).size = 1 + bd.length := by rw [str_app, str_size]; simp; omega
  go_region_with (go_at_call 51; refine (low_any C 2 _ (by omega) (by omega) (by omega)).mono ?_; rintro e w' ⟨rfl, hb⟩; have hkeep := bcell hb)
  all_goals go_wp2
  all_goals go_ret2
  all_goals refine ⟨?_, ?_⟩
  all_goals first
    | exact ret_si (by rw [HF.out])
    | exact ret_si (by rw [HF.out]; exact hcat)
    | exact hbw2.trans ((((Below.refl _ _).alloc (by omega) _).drew).trans (hb.mono (by simp; omega)))
    | exact (hbw2.trans (((Below.refl _ _).drew).trans (hb.mono (by simp; omega)))).alloc (by have := hb.size; simp at this; omega) _

end Go.Proofs.YtcfngdnmpogaoaaGreat
