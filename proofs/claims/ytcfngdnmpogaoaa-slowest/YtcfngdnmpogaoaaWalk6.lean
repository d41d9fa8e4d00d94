import Derived.Test.YtcfngdnmpogaoaaWalk5
import Derived.Deep.RegionWith
namespace Go.Proofs.Ytcfngdnmpogaoaa
open Go.RowKit

theorem str_app (a b : List UInt8) : str a ++ str b = str (a ++ b) := by
  apply ByteArray.ext
  simp [str, ByteArray.data_append]

theorem conv_one (W : World) (g : Nat) (n : Nat) (hc : W.cell? ⟨g, 0, none⟩ = some (.int .u8 (n : Int))) (hn : n < 256) :
    (convert 32 9 (.slice (some ⟨g, 0, none⟩) 1 1)).run Try.prog W = .ok (.string (str [UInt8.ofNat n])) W := by
  refine run_convert_bytes_back (P := Try.prog) W 32 9 5 ⟨g, 0, none⟩ 1 [UInt8.ofNat n] Try.underlying32 Try.underlying5 Try.underlying9 (fun j hj => ?_)
  have hj : j = 0 := by simpa using hj
  subst hj
  rw [Addr.add_lit]
  have e : (UInt8.ofNat n).toNat = n := by simp [UInt8.toNat_ofNat']; omega
  simpa [e] using hc

theorem bcell {W w1 : World} {B : Nat} (hb : Below B W w1) : (∀ b o, b < B → w1.cell? ⟨b, o, none⟩ = W.cell? ⟨b, o, none⟩) ∧ (∀ b o, b < B → w1.frozen? ⟨b, o, none⟩ = W.frozen? ⟨b, o, none⟩) :=
  ⟨fun b o h => hb.cell (p := ⟨b, o, none⟩) h, fun b o h => hb.frozen (p := ⟨b, o, none⟩) h⟩

theorem ret_si {a b : ByteArray} {n : Int} (h : a = b) : Ending.returned (.tuple #[.string a, .int .i64 n]) = .returned (.tuple #[.string b, .int .i64 n]) := by rw [h]

end Go.Proofs.Ytcfngdnmpogaoaa
