import Derived.Test.YtcfngdnmpogaoaaGreatRows
import Derived.Test.YtcfngdnmpogaoaaGreatTkT01
import Derived.Test.YtcfngdnmpogaoaaGreatTkT02
import Derived.Test.YtcfngdnmpogaoaaGreatTkT03
import Derived.Test.YtcfngdnmpogaoaaGreatTkT04
import Derived.Test.YtcfngdnmpogaoaaGreatTkT05
import Derived.Test.YtcfngdnmpogaoaaGreatTkT06
import Derived.Test.YtcfngdnmpogaoaaGreatTkT07
import Derived.Test.YtcfngdnmpogaoaaGreatTkT08
import Derived.Test.YtcfngdnmpogaoaaGreatTkT09
import Derived.Test.YtcfngdnmpogaoaaGreatTkT10
import Derived.Test.YtcfngdnmpogaoaaGreatTkT11
import Derived.Test.YtcfngdnmpogaoaaGreatTkT16
import Derived.Test.YtcfngdnmpogaoaaGreatTkU01
import Derived.Test.YtcfngdnmpogaoaaGreatTkU02
import Derived.Test.YtcfngdnmpogaoaaGreatTkU03
import Derived.Test.YtcfngdnmpogaoaaGreatTkU04
import Derived.Test.YtcfngdnmpogaoaaGreatTkU05
import Derived.Test.YtcfngdnmpogaoaaGreatTkU06
import Derived.Test.YtcfngdnmpogaoaaGreatTkU07
import Derived.Test.YtcfngdnmpogaoaaGreatTkU08
import Derived.Test.YtcfngdnmpogaoaaGreatTkU09
import Derived.Test.YtcfngdnmpogaoaaGreatTkU10
import Derived.Test.YtcfngdnmpogaoaaGreatTkU11
import Derived.Test.YtcfngdnmpogaoaaGreatTkU12
import Derived.Test.YtcfngdnmpogaoaaGreatTkU13
import Derived.Test.YtcfngdnmpogaoaaGreatTkU14
import Derived.Test.YtcfngdnmpogaoaaGreatTkU15
import Derived.Test.YtcfngdnmpogaoaaGreatTkU16
import Derived.Test.YtcfngdnmpogaoaaGreatTkU17
import Derived.Test.YtcfngdnmpogaoaaGreatTkU18
import Derived.Test.YtcfngdnmpogaoaaGreatTkU19
import Derived.Test.YtcfngdnmpogaoaaGreatTkU20
import Derived.Test.YtcfngdnmpogaoaaGreatTkU21
import Derived.Test.YtcfngdnmpogaoaaGreatTkU22
import Derived.Test.YtcfngdnmpogaoaaGreatTkU23
import Derived.Test.YtcfngdnmpogaoaaGreatTkU28
import Derived.Test.YtcfngdnmpogaoaaGreatTkU35
import Derived.Test.YtcfngdnmpogaoaaGreatTkU36
import Derived.Test.YtcfngdnmpogaoaaGreatTkU37
import Derived.Test.YtcfngdnmpogaoaaGreatTkU38
import Derived.Test.YtcfngdnmpogaoaaGreatTkU39
import Derived.WalkKit
import Derived.WalkSpells
import Derived.WalkLawsBesides
import Derived.Deep.AppendSrc
import Derived.Deep.QuietTactic
import Derived.BigQuiet
import Derived.Deep.RegionHeld3
import Derived.Conc.MuData
import Derived.Conc.MuLone
import Derived.KernelRfl
import Derived.Deep.RegionWith
import Derived.StillTailTactics
import Derived.Maps.Own
import Derived.Maps.OwnOps
import Derived.Maps.OwnSet
import Derived.Deep.CutRange
import Derived.BigRegion
import Derived.Deep.RegionLaw
import Derived.Shelf.Abstract
import Derived.Lib.SliceRun
import Derived.Deep.CutBlock
import Derived.Maps.RangeWalk
import Derived.Maps.Ext
import Derived.Lib.BufferWrite
import Derived.Laws.IdiomCopy
import Derived.Laws.Externs
import Derived.Lib.AppendZerosOnto
import Derived.Lib.Overlaps
import Derived.Sort.Grow
import Derived.Shelf.GgSortFunc.InsertionK
import Derived.Sort.WalkA
import Derived.Sort.AssemblyPlain
import Derived.Sort.LotD4
import Derived.Sort.WalkC4
import Derived.Sort.WalkA6
import Derived.Shelf.SlSortCmp.WholeK
import Derived.Shelf.Lay
import Derived.Ground.SlsfProg
import Derived.Sort.Walk7
import Derived.Sort.Walk13
import Derived.RangeFuncNested
import Derived.RangeFuncBound
import Derived.RangeFuncCalls
import Derived.RangeFuncLeaves
import Derived.Shelf.RegionOpen
import Derived.OwnWalkIn
import Derived.TacticsInMore
import Derived.LoopNIn
import Derived.LoopIn
import Derived.Maps.OwnIn
import Derived.Sort.MapsRangeIn
import Derived.RangeFuncStops
import Derived.RangeFuncBox
import Derived.RangeFuncFrom
import Derived.Maps.AppendAt
import Derived.Shelf.SlSortCmp.NoneTotal
import Derived.ProofKit
import Derived.SizedLaws
import Derived.OpenShut
import Derived.Deep.Slices
import Derived.JoinedCond
namespace Go.Proofs.YtcfngdnmpogaoaaGreat
open Go.RowKit
theorem numb_low (n k : Nat) : numb (low n k) = n % 256 ^ k := by
  induction k generalizing n with
  | zero => simp [low, numb, Nat.mod_one]
  | succ k ih =>
    simp only [low, numb, ih, UInt8.toNat_ofNat']
    rw [show 256 ^ (k + 1) = 256 * 256 ^ k from by rw [Nat.pow_succ, Nat.mul_comm], Nat.mod_mul]
theorem toList_nil {s : ByteArray} (h : s.toList = []) : s.data.toList = [] := by rw [← ByteArray.toList_eq]; exact h
theorem toI_toU (x : Int) (h1 : -9223372036854775808 ≤ x) (h2 : x < 9223372036854775808) : toI (toU x) = x := by
  unfold toI
  rw [← toU_eq, IntKind.wrap_u64]
  unfold wrap64
  omega
theorem frame_len {kind : Int} {key : ByteArray} {time value : Int} {tag : Nat} (_h : isItemB kind key value tag = true) :
    (frameBytes kind key time value tag).length = (itemBody kind key time value tag).length + 3 := by
  simp [frameBytes, low_length]
theorem frame_head {kind : Int} {key : ByteArray} {time value : Int} {tag : Nat} (h : isItemB kind key value tag = true) (more : List UInt8) :
    ((frameBytes kind key time value tag ++ more).getD 0 0).toNat = (itemBody kind key time value tag).length := by
  have := itemBody_len (time := time) h
  simp [frameBytes, UInt8.toNat_ofNat']
  omega
theorem frame_body {kind : Int} {key : ByteArray} {time value : Int} {tag : Nat} (h : isItemB kind key value tag = true) (more : List UInt8) :
    unfBody (frameBytes kind key time value tag ++ more) = itemBody kind key time value tag := by
  unfold unfBody
  rw [frame_head h]
  simp [frameBytes]
theorem frame_crc {kind : Int} {key : ByteArray} {time value : Int} {tag : Nat} (h : isItemB kind key value tag = true) (more : List UInt8) :
    unfCrc (frameBytes kind key time value tag ++ more) = true := by
  unfold unfCrc
  rw [frame_body h, frame_head h, decide_eq_true_eq]
  have hc := crc_lt (itemBody kind key time value tag)
  have e : ((frameBytes kind key time value tag ++ more).drop (1 + (itemBody kind key time value tag).length)).take 2 = low (crc (itemBody kind key time value tag)) 2 := by
    rw [Nat.add_comm]
    simp [frameBytes, low_length]
  rw [e, numb_low]
  omega
theorem cut_key (x y : UInt8) (K R : List UInt8) : (x :: y :: (K ++ R)).drop (2 + K.length) = R := by
  rw [Nat.add_comm]; simp
theorem cut_more (x y : UInt8) (K A R : List UInt8) (n : Nat) (hA : A.length = n) : (x :: y :: (K ++ (A ++ R))).drop (2 + K.length + n) = R := by
  rw [← List.drop_drop, cut_key, List.drop_left' hA]
theorem frame_item {kind : Int} {key : ByteArray} {time value : Int} {tag : Nat} (h : isItemB kind key value tag = true) (ht : tag < 4294967296)
    (t1 : -9223372036854775808 ≤ time) (t2 : time < 9223372036854775808) (v1 : -9223372036854775808 ≤ value) (v2 : value < 9223372036854775808) :
    itemOfB (itemBody kind key time value tag) = true ∧ itemOfV (itemBody kind key time value tag) = itemV kind key time value tag := by
  rcases isItemB_cases h with ⟨rfl, hk, rfl, htg⟩ | ⟨rfl, hk1, hk8⟩
  · have hB : itemOfB (itemBody 2 key time 0 tag) = true := by simp [itemOfB, itemBody, bodyMark, low_length]
    refine ⟨hB, ?_⟩
    unfold itemOfV
    rw [if_pos hB, if_neg (by simp [itemBody, bodyMark])]
    have hkk : key = ⟨#[]⟩ := by
      rw [← str_of key, toList_nil hk]; rfl
    have htg : tag = 0 := by omega
    subst hkk htg
    have := numb_low (toU time) 8
    have := toU_lt time
    simp only [markVal, itemV, itemBody, bodyMark, if_true, List.drop_succ_cons, List.drop_zero]
    rw [numb_low, Nat.mod_eq_of_lt (by omega), toI_toU time t1 t2]
    rfl
  · have hkl := keyLen key
    have hkm : (UInt8.ofNat key.data.toList.length).toNat = key.size := by rw [UInt8.toNat_ofNat', hkl]; omega
    have hE : isEvent (itemBody 1 key time value tag) = true := by
      have e1 : ((itemBody 1 key time value tag).getD 1 0) = UInt8.ofNat key.data.toList.length := by simp [itemBody, bodyEvent]
      have e2 : (itemBody 1 key time value tag).length = 22 + key.size := by simp [itemBody, bodyEvent, low_length]; omega
      unfold isEvent
      rw [e1, e2, hkm]
      simp
      omega
    have hB : itemOfB (itemBody 1 key time value tag) = true := by
      unfold itemOfB
      rw [if_pos (by simp [itemBody, bodyEvent])]
      exact hE
    refine ⟨hB, ?_⟩
    unfold itemOfV
    rw [if_pos hB, if_pos (by simp [itemBody, bodyEvent])]
    have e1 : ((itemBody 1 key time value tag).getD 1 0) = UInt8.ofNat key.data.toList.length := by simp [itemBody, bodyEvent]
    rw [e1, hkm]
    have d0 : itemBody 1 key time value tag = 1 :: UInt8.ofNat key.data.toList.length :: (key.data.toList ++ (low (toU time) 8 ++ (low (toU value) 8 ++ low tag 4))) := by
      simp [itemBody, bodyEvent]
    have f1 : ((itemBody 1 key time value tag).drop 2).take key.size = key.data.toList := by
      rw [d0, ← hkl]
      exact List.take_left' rfl
    have f2 : ((itemBody 1 key time value tag).drop (2 + key.size)).take 8 = low (toU time) 8 := by
      rw [d0, ← hkl, cut_key, List.take_left' (low_length _ _)]
    have f3 : ((itemBody 1 key time value tag).drop (10 + key.size)).take 8 = low (toU value) 8 := by
      rw [d0, ← hkl, show 10 + key.data.toList.length = 2 + key.data.toList.length + 8 from by omega, cut_more _ _ _ _ _ _ (low_length _ _), List.take_left' (low_length _ _)]
    have f4 : (itemBody 1 key time value tag).drop (18 + key.size) = low tag 4 := by
      rw [d0, ← hkl, show 18 + key.data.toList.length = 2 + key.data.toList.length + 8 + 8 from by omega, ← List.drop_drop, cut_more _ _ _ _ _ _ (low_length _ _), List.drop_left' (low_length _ _)]
    have := toU_lt time
    have := toU_lt value
    unfold eventVal
    rw [f1, f2, f3, f4, numb_low, numb_low, numb_low, Nat.mod_eq_of_lt (by omega), Nat.mod_eq_of_lt (by omega), Nat.mod_eq_of_lt (by omega), toI_toU time t1 t2, toI_toU value v1 v2, str_of]
    rfl
theorem frame_long {kind : Int} {key : ByteArray} {time value : Int} {tag : Nat} (h : isItemB kind key value tag = true) (ht : tag < 4294967296)
    (t1 : -9223372036854775808 ≤ time) (t2 : time < 9223372036854775808) (v1 : -9223372036854775808 ≤ value) (v2 : value < 9223372036854775808) (more : List UInt8) :
    unfShort (frameBytes kind key time value tag ++ more) = false ∧ unfOk (frameBytes kind key time value tag ++ more) = true := by
  refine ⟨?_, ?_⟩
  · unfold unfShort
    rw [frame_head h, List.length_append, frame_len h]
    simp
  · unfold unfOk
    rw [frame_crc h, frame_body h, (frame_item (time := time) (value := value) h ht t1 t2 v1 v2).1]; rfl
theorem item_mark2 : isItemB 2 ⟨#[]⟩ 0 ((0 : Nat) : Int) = true := by
  unfold isItemB
  rw [show (⟨#[]⟩ : ByteArray).toList = [] from by rw [ByteArray.toList_eq]]
  rfl
theorem pickZ_lt (c n : Int) (hn : 1 ≤ n) : 0 ≤ pickZ c n ∧ pickZ c n < n := ⟨Int.emod_nonneg _ (by omega), Int.emod_lt_of_pos _ (by omega)⟩
theorem pick_any (c n : Int) (w : World) (h1 : -9223372036854775808 ≤ c) (h2 : c ≤ 9223372036854775807) (hn : 1 ≤ n) (hn2 : n ≤ 4611686018427387904) :
    Calls Tryz.prog 17 #[.int .i64 c, .int .i64 n] w fun e w' => e = .returned (.int .i64 (pickZ c n)) ∧ w' = w := by
  have hz : ¬ n = 0 := by omega
  by_cases hc : c < 0
  · have e0 : wrap64 (c + 1) = c + 1 := by unfold wrap64; omega
    have e1 : wrap64 (-(c + 1)) = -(c + 1) := by unfold wrap64; omega
    obtain ⟨d, hd⟩ : ∃ d, -(c + 1) = d := ⟨_, rfl⟩
    have hd0 : 0 ≤ d := by omega
    have hm : d.tmod n = d % n := Int.tmod_eq_emod_of_nonneg hd0
    have b1 := Int.emod_nonneg d hz
    have b2 := Int.emod_lt_of_pos d (show 0 < n by omega)
    have e2 : IntKind.i64.wrap (d.tmod n) = d % n := by rw [hm, IntKind.wrap_i64]; omega
    have hp : pickZ c n = d % n := by rw [pickZ, if_pos hc, hd]
    rw [hp]
    rw [hd] at e1
    go_enter Tryz.func17, Tryz.ntmps17
    go_wp2
    go_ret
    exact ⟨rfl, rfl⟩
  · have hm : c.tmod n = c % n := Int.tmod_eq_emod_of_nonneg (by omega)
    have b1 := Int.emod_nonneg c hz
    have b2 := Int.emod_lt_of_pos c (show 0 < n by omega)
    have e2 : IntKind.i64.wrap (c.tmod n) = c % n := by rw [hm, IntKind.wrap_i64]; omega
    have hp : pickZ c n = c % n := by rw [pickZ, if_neg hc]
    rw [hp]
    go_enter Tryz.func17, Tryz.ntmps17
    go_wp2
    go_ret
    exact ⟨rfl, rfl⟩
theorem mark_any (t : Int) (w : World) :
    Calls Tryz.prog 21 #[.int .i64 t] w fun e w' => ∃ v, e = .returned v ∧ Row w' 5 1 v ((markB t).map byteV) ∧ (∀ g, v.ownBlock = some g → w.heap.size ≤ g) ∧ Below w.heap.size w w' := by
  have hF := fun W => frame_yes 2 ⟨#[]⟩ t 0 0 W (by decide) item_mark2 (by decide)
  go_enter Tryz.func21, Tryz.ntmps21
  go_wp2_with fail
  refine (hF _).mono ?_
  rintro e W ⟨v, rfl, hr, hg, hb⟩
  go_wp2
  go_ret
  exact ⟨v, rfl, hr, hg, hb⟩
theorem FlowOn.lt {w : World} {g : Nat} {c : Cf} {sp : Sp} {rs : List (List UInt8)} {F : Nat → Prop} {T : Option Int} (h : FlowOn w g c sp rs F T) : FlowOn w g c sp rs (fun k => F k ∧ k < w.heap.size) T := by
  obtain ⟨us, ⟨st, ⟨r, gs, es, h3, a1, a2, a3, h5⟩, h6⟩, h2⟩ := h
  exact ⟨us, ⟨st, ⟨r, gs, es, h3, a1, a2, a3, fun k hk => ⟨h5 k hk, h3.lt hk⟩⟩, h6⟩, h2.ul, h2.rl, fun i v l hu hr => ⟨(h2.row i v l hu hr).1, fun k hk => ⟨(h2.row i v l hu hr).2.1 k hk, ((h2.row i v l hu hr).1.blk_lt hk).1⟩, (h2.row i v l hu hr).2.2⟩⟩
/-- What a window's cells hold, read of a row. -/
theorem WinsAt.cells {w wr : World} {a : Option Addr} {n c B : Nat} {xs : List WinX} (h : WinsAt w (.slice a n c) xs B) (hb : Below w.heap.size w wr) {k : Nat} {x : WinX} (hx : xs[k]? = some x) : ∃ g off, a = some ⟨g, off, none⟩ ∧ n = xs.length ∧ wr.cell? ⟨g, off + k * 7, none⟩ = some (.string x.w.key) ∧ wr.cell? ⟨g, off + k * 7 + 1, none⟩ = some (.int .i64 x.w.start) ∧ wr.cell? ⟨g, off + k * 7 + 2, none⟩ = some (.int .i64 x.w.cnt) ∧ wr.cell? ⟨g, off + k * 7 + 3, none⟩ = some (.int .i64 x.w.sum) ∧ wr.cell? ⟨g, off + k * 7 + 4, none⟩ = some (.int .i64 x.w.lo) ∧ wr.cell? ⟨g, off + k * 7 + 5, none⟩ = some (.int .i64 x.w.hi) ∧ wr.cell? ⟨g, off + k * 7 + 6, none⟩ = some x.tv := by
  have hl : (xs.flatMap wxCells).length = 7 * xs.length := winFlat_len xs
  obtain ⟨hk, -⟩ := List.getElem?_eq_some_iff.1 hx
  obtain ⟨a', c', hv, -⟩ := h.row.len (by decide)
  simp only [Value.slice.injEq] at hv
  have hn : n = xs.length := by omega
  obtain ⟨g, off, rfl⟩ := slice_some h.row (by omega)
  have hc : ∀ j, j < 7 → wr.cell? ⟨g, off + (k * 7 + j), none⟩ = (wxCells x)[j]? := fun j hj => by
    rw [h.row.at hb (k * 7 + j) (by omega), winFlat xs k j x hx hj]
  exact ⟨g, off, rfl, hn, hc 0 (by omega), hc 1 (by omega), hc 2 (by omega), hc 3 (by omega), hc 4 (by omega), hc 5 (by omega), hc 6 (by omega)⟩
theorem WinsAt.len {w : World} {v : Value} {xs : List WinX} {B : Nat} (h : WinsAt w v xs B) : ∃ a c, v = .slice a xs.length c := by
  obtain ⟨a, c, hv, -⟩ := h.row.len (by decide)
  rw [winFlat_len, Nat.mul_div_cancel_left _ (by decide)] at hv
  exact ⟨a, c, hv⟩
theorem cells3 : Tryz.prog.cellsOf 3 = 1 := by kernel_rfl
theorem cells2 : Tryz.prog.cellsOf 2 = 1 := by kernel_rfl
theorem cells42 : Tryz.prog.cellsOf 26 = 1 := by kernel_rfl
theorem list4 {α : Type} {l : List α} (h : l.length = 4) : ∃ a b c d, l = [a, b, c, d] := by
  match l, h with
  | [a, b, c, d], _ => exact ⟨a, b, c, d, rfl⟩
theorem cellsN_some {w : World} {base : Nat} {a : Addr} {n : Nat} {cs : List Value} (h : w.cells? base a n = some cs) : cs.length = n ∧ ∀ j, j < n → w.cell? (a.add j) = cs[j]? := by
  unfold World.cells? at h
  split at h
  · have hl := mapM_some_length h
    refine ⟨by simpa using hl, fun j hj => ?_⟩
    have := mapM_some_get h j j (by simp [hj])
    rw [← this]
  · cases h
theorem ownL : ownKnob Tryz.prog.godebug = none := by kernel_rfl
theorem laidOutL : laidOutB Tryz.prog = true := by kernel_rfl
end Go.Proofs.YtcfngdnmpogaoaaGreat
