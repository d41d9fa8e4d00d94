import Derived.Test.YtcfngdnmpogaoaaGreatPcA01
import Derived.Test.YtcfngdnmpogaoaaGreatPcA02
namespace Go.Proofs.YtcfngdnmpogaoaaGreat
open Go.RowKit

def OutB (ov : Value) (ys : List WinX) (k : Nat) : Prop := ov.ownBlock = some k ∨ ∃ x ∈ ys, x.tv.ownBlock = some k
end Go.Proofs.YtcfngdnmpogaoaaGreat
namespace Go.Proofs.YtcfngdnmpogaoaaGreat
open Go.RowKit

structure RawE where
  k : Int
  t : Int
  v : Int
  tag : Nat
def RawE.cells (e : RawE) : Array Value := #[.int .i64 e.k, .int .i64 e.t, .int .i64 e.v, .int .u32 (e.tag : Int)]
def RawE.ev (e : RawE) : Ev := evRaw e.k e.t e.v e.tag
structure RawE.Fits (e : RawE) : Prop where
  k : i64B e.k
  t : i64B e.t
  v : i64B e.v
  tag : e.tag < 4294967296
theorem RawE.Fits.evB {e : RawE} (h : e.Fits) : EvB e.ev := by
  have h1 := pickZ_lt e.k 5 (by omega)
  have h2 := pickZ_lt e.t 1000 (by omega)
  have hv := h.v
  unfold i64B at hv
  have hk : 1 ≤ e.ev.key.size ∧ e.ev.key.size ≤ 8 := by
    show 1 ≤ ((keys5[(pickZ e.k 5).toNat]?).getD ⟨#[97]⟩).size ∧ ((keys5[(pickZ e.k 5).toNat]?).getD ⟨#[97]⟩).size ≤ 8
    obtain ⟨m, hm, hm5⟩ : ∃ m : Nat, (pickZ e.k 5).toNat = m ∧ m < 5 := ⟨_, rfl, by omega⟩
    rw [hm]
    match m, hm5 with
    | 0, _ => decide
    | 1, _ => decide
    | 2, _ => decide
    | 3, _ => decide
    | 4, _ => decide
  refine ⟨hk.1, hk.2, ?_, ?_, hv.1, ?_, h.tag⟩
  · show _ ≤ pickZ e.t 1000 - 500; omega
  · show pickZ e.t 1000 - 500 < _; omega
  · show e.v < _; omega
theorem evB_len {e : Ev} (h : EvB e) : 1 ≤ (evB e).length ∧ (evB e).length ≤ 40 := by
  have h1 := frame_len (time := e.t) h.item
  obtain ⟨h2, h3⟩ := itemBody_len (time := e.t) h.item
  unfold evB
  omega
end Go.Proofs.YtcfngdnmpogaoaaGreat
