import Derived.Test.YtcfngdnmpogaoaaGreatRows
import Derived.Test.YtcfngdnmpogaoaaGreatTkT01
import Derived.Test.YtcfngdnmpogaoaaGreatTkT02
import Derived.Test.YtcfngdnmpogaoaaGreatTkT03
import Derived.Test.YtcfngdnmpogaoaaGreatTkT04
import Derived.Test.YtcfngdnmpogaoaaGreatTkT05
import Derived.Test.YtcfngdnmpogaoaaGreatTkT06
import Derived.Test.YtcfngdnmpogaoaaGreatTkT07
import Derived.Test.YtcfngdnmpogaoaaGreatTkT08
import Derived.Test.YtcfngdnmpogaoaaGreatTkT09
import Derived.Test.YtcfngdnmpogaoaaGreatTkT10
import Derived.Test.YtcfngdnmpogaoaaGreatTkT11
import Derived.Test.YtcfngdnmpogaoaaGreatTkT16
import Derived.Test.YtcfngdnmpogaoaaGreatTkU01
import Derived.Test.YtcfngdnmpogaoaaGreatTkU02
import Derived.Test.YtcfngdnmpogaoaaGreatTkU03
import Derived.Test.YtcfngdnmpogaoaaGreatTkU04
import Derived.Test.YtcfngdnmpogaoaaGreatTkU05
import Derived.Test.YtcfngdnmpogaoaaGreatTkU06
import Derived.Test.YtcfngdnmpogaoaaGreatTkU07
import Derived.Test.YtcfngdnmpogaoaaGreatTkU08
import Derived.Test.YtcfngdnmpogaoaaGreatTkU09
import Derived.Test.YtcfngdnmpogaoaaGreatTkU10
import Derived.Test.YtcfngdnmpogaoaaGreatTkU11
import Derived.Test.YtcfngdnmpogaoaaGreatTkU12
import Derived.Test.YtcfngdnmpogaoaaGreatTkU13
import Derived.Test.YtcfngdnmpogaoaaGreatTkU14
import Derived.Test.YtcfngdnmpogaoaaGreatTkU15
import Derived.Test.YtcfngdnmpogaoaaGreatTkU16
import Derived.Test.YtcfngdnmpogaoaaGreatTkU17
import Derived.Test.YtcfngdnmpogaoaaGreatTkU18
import Derived.Test.YtcfngdnmpogaoaaGreatTkU19
import Derived.Test.YtcfngdnmpogaoaaGreatTkU20
import Derived.Test.YtcfngdnmpogaoaaGreatTkU21
import Derived.Test.YtcfngdnmpogaoaaGreatTkU22
import Derived.Test.YtcfngdnmpogaoaaGreatTkU23
import Derived.Test.YtcfngdnmpogaoaaGreatTkU28
import Derived.Test.YtcfngdnmpogaoaaGreatTkU35
import Derived.Test.YtcfngdnmpogaoaaGreatTkU36
import Derived.Test.YtcfngdnmpogaoaaGreatTkU37
import Derived.Test.YtcfngdnmpogaoaaGreatTkU38
import Derived.Test.YtcfngdnmpogaoaaGreatTkU39
import Derived.Test.YtcfngdnmpogaoaaGreatPcS01
import Derived.Test.YtcfngdnmpogaoaaGreatPcA01
import Derived.Test.YtcfngdnmpogaoaaGreatPcA02
import Derived.Test.YtcfngdnmpogaoaaGreatPcA03
import Derived.Test.YtcfngdnmpogaoaaGreatPcA05
import Derived.Test.YtcfngdnmpogaoaaGreatWnS01
import Derived.Test.YtcfngdnmpogaoaaGreatWnA01
import Derived.Test.YtcfngdnmpogaoaaGreatWnA02
import Derived.Test.YtcfngdnmpogaoaaGreatWnA03
import Derived.WalkKit
import Derived.WalkSpells
import Derived.WalkLawsBesides
import Derived.Deep.AppendSrc
import Derived.Deep.QuietTactic
import Derived.BigQuiet
import Derived.Deep.RegionHeld3
import Derived.Conc.MuData
import Derived.Conc.MuLone
import Derived.KernelRfl
import Derived.Deep.RegionWith
import Derived.StillTailTactics
import Derived.Maps.Own
import Derived.Maps.OwnOps
import Derived.Maps.OwnSet
import Derived.Deep.CutRange
import Derived.BigRegion
import Derived.Deep.RegionLaw
import Derived.Shelf.Abstract
import Derived.Lib.SliceRun
import Derived.Deep.CutBlock
import Derived.Maps.RangeWalk
import Derived.Maps.Ext
import Derived.Lib.BufferWrite
import Derived.Laws.IdiomCopy
import Derived.Laws.Externs
import Derived.Lib.AppendZerosOnto
import Derived.Lib.Overlaps
import Derived.Sort.Grow
import Derived.Shelf.GgSortFunc.InsertionK
import Derived.Sort.WalkA
import Derived.Sort.AssemblyPlain
import Derived.Sort.LotD4
import Derived.Sort.WalkC4
import Derived.Sort.WalkA6
import Derived.Shelf.SlSortCmp.WholeK
import Derived.Shelf.Lay
import Derived.Ground.SlsfProg
import Derived.Sort.Walk7
import Derived.Sort.Walk13
import Derived.RangeFuncNested
import Derived.RangeFuncBound
import Derived.RangeFuncCalls
import Derived.RangeFuncLeaves
import Derived.Shelf.RegionOpen
import Derived.OwnWalkIn
import Derived.TacticsInMore
import Derived.LoopNIn
import Derived.LoopIn
import Derived.Maps.OwnIn
import Derived.Sort.MapsRangeIn
import Derived.RangeFuncStops
import Derived.RangeFuncBox
import Derived.RangeFuncFrom
import Derived.Maps.AppendAt
import Derived.Shelf.SlSortCmp.NoneTotal
import Derived.ProofKit
import Derived.SizedLaws
import Derived.OpenShut
import Derived.Deep.Slices
import Derived.JoinedCond
import Derived.ChangeMaps5
namespace Go.Proofs.YtcfngdnmpogaoaaGreat
open Go.RowKit
theorem Solo.line {n0 : Nat} {X : Nat → Prop} {w : World} {f : Nat} {c : Cf} {sp : Sp} {T : Option Int} (h : Solo n0 X w f c sp T) (hX : ∀ k, X k → k < w.heap.size) (h0 : n0 ≤ w.heap.size) :
    Calls Tryz.prog 29 #[.pointer (some ⟨f, 0, none⟩)] w fun e w' => e = .returned (.tuple #[.int .i64 sp.lt, .bool sp.li]) ∧ Solo n0 X w' f c sp T ∧ Kept (fun k => n0 ≤ k ∧ ¬ X k) w w' :=
  h.by hX h0 (fun F hF => (line_on f c sp _ F T w hF).mono (fun _ _ ⟨h1, h2, h3⟩ => ⟨h1, h2.up, h3⟩))
/-- An event's bytes fed. -/
theorem Solo.event {n0 : Nat} {X : Nat → Prop} {w : World} {f : Nat} {c : Cf} {sp : Sp} {T : Option Int} (n : Nat) (e : Ev) (bv : Value) (s : SrcS) (h : Solo n0 X w f c sp T) (hX : ∀ k, X k → k < w.heap.size) (h0 : n0 ≤ w.heap.size) (hE : EvB e) (hb : Row w 5 1 bv ((evB e).map byteV)) (hs : sp.src[n]? = some s) (ho : s.opened = true) (hbr : s.broken = false) (hn : n < 8) (hl : sp.E.length < 80000000) :
    Calls Tryz.prog 20 #[.pointer (some ⟨f, 0, none⟩), .int .i64 n, bv] w fun e' w' => e' = .returned (.int .i64 0) ∧ Solo n0 X w' f c ((sp.event0 c n e).line c) T ∧ Kept (fun k => n0 ≤ k ∧ ¬ X k) w w' :=
  h.by hX h0 (fun F hF => by
    have hl0 : (List.replicate 8 ([] : List UInt8))[n]? = some [] := by rw [List.getElem?_replicate, if_pos hn]
    have hlen := evB_len hE
    have h1 := feed_on f n c sp (List.replicate 8 []) F T bv (evB e) [] s w hF hs ho hbr hl0 hb (by omega)
    rw [List.nil_append] at h1
    have h2 := (feed_ev c n (evB e).length sp e hE []).1
    rw [List.append_nil, feedF_void] at h2
    rw [h2, set_void _ n hl0] at h1
    exact h1)
theorem Solo.feedNo {n0 : Nat} {X : Nat → Prop} {w : World} {f : Nat} {c : Cf} {sp : Sp} {T : Option Int} (n : Nat) (bv : Value) (s : SrcS) (h : Solo n0 X w f c sp T) (hX : ∀ k, X k → k < w.heap.size) (h0 : n0 ≤ w.heap.size) (hs : sp.src[n]? = some s) (ho : s.opened = false) :
    Calls Tryz.prog 20 #[.pointer (some ⟨f, 0, none⟩), .int .i64 n, bv] w fun e w' => e = .returned (.int .i64 4) ∧ Solo n0 X w' f c sp T ∧ Kept (fun k => n0 ≤ k ∧ ¬ X k) w w' :=
  h.by hX h0 (fun F hF => (feed_no_on f n c sp _ F T bv s w hF hs ho).mono (fun _ _ ⟨h1, h2, h3⟩ => ⟨h1, h2.up, h3⟩))
theorem Solo.openNo {n0 : Nat} {X : Nat → Prop} {w : World} {f : Nat} {c : Cf} {sp : Sp} {T : Option Int} (n : Nat) (s : SrcS) (h : Solo n0 X w f c sp T) (hX : ∀ k, X k → k < w.heap.size) (h0 : n0 ≤ w.heap.size) (hs : sp.src[n]? = some s) (ho : s.opened = true) :
    Calls Tryz.prog 22 #[.pointer (some ⟨f, 0, none⟩), .int .i64 n] w fun e w' => e = .returned (.int .i64 4) ∧ Solo n0 X w' f c sp T ∧ Kept (fun k => n0 ≤ k ∧ ¬ X k) w w' :=
  h.by hX h0 (fun F hF => (open_no_on f n c sp _ F T s w hF hs ho).mono (fun _ _ ⟨h1, h2, h3⟩ => ⟨h1, h2.up, h3⟩))
theorem Solo.close {n0 : Nat} {X : Nat → Prop} {w : World} {f : Nat} {c : Cf} {sp : Sp} {T : Option Int} (n : Nat) (s : SrcS) (h : Solo n0 X w f c sp T) (hX : ∀ k, X k → k < w.heap.size) (h0 : n0 ≤ w.heap.size) (hs : sp.src[n]? = some s) (ho : s.opened = true) (hn : n < 8) (hl : sp.E.length ≤ 100000000) :
    Calls Tryz.prog 49 #[.pointer (some ⟨f, 0, none⟩), .int .i64 n] w fun e w' => e = .returned (.int .i64 0) ∧ Solo n0 X w' f c ((sp.close0 n).line c) T ∧ Kept (fun k => n0 ≤ k ∧ ¬ X k) w w' :=
  h.by hX h0 (fun F hF => by
    have h1 := close_on f n c sp _ F T s w hF hs ho hl
    rw [set_void _ n (by rw [List.getElem?_replicate, if_pos hn])] at h1
    exact h1)
theorem Solo.closeNo {n0 : Nat} {X : Nat → Prop} {w : World} {f : Nat} {c : Cf} {sp : Sp} {T : Option Int} (n : Nat) (s : SrcS) (h : Solo n0 X w f c sp T) (hX : ∀ k, X k → k < w.heap.size) (h0 : n0 ≤ w.heap.size) (hs : sp.src[n]? = some s) (ho : s.opened = false) :
    Calls Tryz.prog 49 #[.pointer (some ⟨f, 0, none⟩), .int .i64 n] w fun e w' => e = .returned (.int .i64 4) ∧ Solo n0 X w' f c sp T ∧ Kept (fun k => n0 ≤ k ∧ ¬ X k) w w' :=
  h.by hX h0 (fun F hF => (close_no_on f n c sp _ F T s w hF hs ho).mono (fun _ _ ⟨h1, h2, h3⟩ => ⟨h1, h2.up, h3⟩))
end Go.Proofs.YtcfngdnmpogaoaaGreat
