/- Proved: the statement Bytes (an item's bytes, whatever stands behind them, are read as that item; of fewer there is none yet; with a bit turned behind the first byte they are none; what is no item has no bytes), for every input, with no condition of ours. -/
import Derived.Test.YtcfngdnmpogaoaaGreatBytesT16
import Derived.Test.YtcfngdnmpogaoaaGreatBytesT06
import Derived.Test.YtcfngdnmpogaoaaGreatBytesT07
import Derived.Test.YtcfngdnmpogaoaaGreatRows
import Derived.WalkKit
import Derived.ProofKit
import Derived.OpenShut
import Derived.SizedLaws
import Derived.ChangeMaps5

/-
  Bytes: an item that is none.
-/
namespace Go.Proofs.YtcfngdnmpogaoaaGreat
open Go.RowKit Go.MuLone

theorem isItem_k (kind : Int) : isItemB kind ⟨#[107]⟩ 0 0 = decide (kind = 1) := by
  unfold isItemB
  by_cases h : kind = 2
  · subst h; simp
  · rw [if_neg h]; by_cases h1 : kind = 1 <;> simp [h1]; exact ⟨by decide, by decide⟩

theorem isItem_not {kind : Int} {key : ByteArray} {value tag : Int} (h : isItemB kind key value tag = false) (h1 : kind = 1) : key.size = 0 ∨ 8 < key.size := by
  subst h1
  simp [isItemB] at h
  omega

set_option maxRecDepth 20000 in
set_option maxHeartbeats 3200000 in
theorem bytes_no (kind : Int) (key : ByteArray) (time value tag : Int) (more : ByteArray) (bit : Int) (w : World) (hk : key.size ≤ 9223372036854775807) (h : isItemB kind key value tag = false) :
    Calls Tryz.prog 6 #[.agg #[.int .i64 kind, .string key, .int .i64 time, .int .i64 value, .int .u32 tag], .string more, .int .i64 bit] w fun e w' => e = .returned (.bool true) ∧ Below w.heap.size w w' := by
  go_enter Tryz.func6, Tryz.ntmps6
  go_upto_region 1 with fail
  have hi1 := heap_alloc_new w (.cells #[.int .i64 kind, .string key, .int .i64 time, .int .i64 value, .int .u32 tag] 28)
  have B1 : Hid (Below w.heap.size w (w.alloc (.cells #[.int .i64 kind, .string key, .int .i64 time, .int .i64 value, .int .u32 tag] 28))) := (Below.refl _ w).alloc (Nat.le_refl _) _
  generalize w.alloc (.cells #[.int .i64 kind, .string key, .int .i64 time, .int .i64 value, .int .u32 tag] 28) = W1 at *
  go_wp2_with fail
  refine (known_true W1).mono ?_
  rintro e W2 ⟨rfl, hb2⟩
  have hi2 := blkBelow hi1 hb2
  have B2 : Hid (Below w.heap.size w W2) := B1.out.trans (hb2.mono B1.out.size)
  clear hi1 hb2 B1
  obtain ⟨i0, i1, i2, i3, i4⟩ := itemAt hi2
  go_wp2_with fail
  refine (frame_no kind key time value tag W2 hk h).mono ?_
  rintro e W3 ⟨rfl, hb3⟩
  have hi3 := blkBelow hi2 hb3
  have B3 : Hid (Below w.heap.size w W3) := B2.out.trans (hb3.mono B2.out.size)
  clear hi2 hb3 B2 i0 i1 i2 i3 i4
  obtain ⟨i0, i1, i2, i3, i4⟩ := itemAt hi3
  go_wp2_with fail
  by_cases h1 : kind = 1
  · have hk1 : isItemB kind ⟨#[107]⟩ 0 ((0 : Nat) : Int) = true := by rw [show ((0 : Nat) : Int) = 0 from rfl, isItem_k]; simpa using h1
    refine (frame_yes kind ⟨#[107]⟩ time 0 0 W3 (by decide) hk1 (by decide)).mono ?_
    rintro e W4 ⟨v', rfl, -, -, hb4⟩
    have hi4 := blkBelow hi3 hb4
    have B4 : Hid (Below w.heap.size w W4) := B3.out.trans (hb4.mono B3.out.size)
    clear hi3 hb4 B3 i0 i1 i2 i3 i4
    obtain ⟨i0, i1, i2, i3, i4⟩ := itemAt hi4
    have hn := isItem_not h h1
    subst h1
    rcases hn with hn | hn
    · go_wp2
      all_goals
        go_ret
        first | exact ⟨rfl, B4.out⟩ | exact ⟨by simp [hn]; done, B4.out⟩
    · have hlong : ((key.size : Int) == 0 || decide (8 < (key.size : Int))) = true := by
        rw [Bool.or_eq_true]; right; simp; omega
      have HL : Hid (((key.size : Int) == 0 || decide (8 < (key.size : Int))) = true) := hlong
      clear hlong
      go_wp2
      all_goals
        go_ret
        first | exact ⟨rfl, B4.out⟩ | exact ⟨congrArg (fun b => Ending.returned (.bool b)) HL.out, B4.out⟩
  · have hk1 : isItemB kind ⟨#[107]⟩ 0 0 = false := by rw [isItem_k]; simpa using h1
    refine (frame_no kind ⟨#[107]⟩ time 0 0 W3 (by decide) hk1).mono ?_
    rintro e W4 ⟨rfl, hb4⟩
    have B4 : Hid (Below w.heap.size w W4) := B3.out.trans (hb4.mono B3.out.size)
    clear hi3 hb4 B3 i0 i1 i2 i3 i4
    go_wp2
    go_ret
    exact ⟨rfl, B4.out⟩
end Go.Proofs.YtcfngdnmpogaoaaGreat

/-
  Bytes: an item.
-/
namespace Go.Proofs.YtcfngdnmpogaoaaGreat
open Go.RowKit Go.MuLone

theorem Row.cut {w : World} {e : TypeId} {g off n cap : Nat} {xs : List Value} (h : Row w e 1 (.slice (some ⟨g, off, none⟩) n cap) xs) (k : Nat) (hk : k ≤ n) : Row w e 1 (.slice (some ⟨g, off, none⟩) k cap) (xs.take k) := by
  rcases h with ⟨h, _⟩ | ⟨g', off', n', cap', cur, hv, hg, h1, h2, h3, h4, h5⟩
  · simp at h
  · simp only [Value.slice.injEq, Option.some.injEq, Addr.mk.injEq] at hv
    obtain ⟨⟨rfl, rfl, _⟩, rfl, rfl⟩ := hv
    refine .inr ⟨g, off, k, cap, cur, rfl, hg, by omega, h2, h3, by simp; omega, fun j hj => ?_⟩
    rw [List.getElem?_take, if_pos (by omega)]
    exact h5 j (by omega)
/-- One cell of a row stored. -/
theorem Row.put {w : World} {e : TypeId} {g off n cap : Nat} {xs : List Value} (h : Row w e 1 (.slice (some ⟨g, off, none⟩) n cap) xs) (k : Nat) (hk : k < n) (v : Value) : Row (w.setCell ⟨g, off + k, none⟩ v) e 1 (.slice (some ⟨g, off, none⟩) n cap) (xs.set k v) := by
  rcases h with ⟨h, _⟩ | ⟨g', off', n', cap', cur, hv, hg, h1, h2, h3, h4, h5⟩
  · simp at h
  · simp only [Value.slice.injEq, Option.some.injEq, Addr.mk.injEq] at hv
    obtain ⟨⟨rfl, rfl, _⟩, rfl, rfl⟩ := hv
    refine .inr ⟨g, off, n, cap, _, rfl, heap_setCell_same w g (off + k) cur e v hg, h1, h2, by simpa using h3, by simpa using h4, fun j hj => ?_⟩
    rw [Array.getElem?_setIfInBounds, List.getElem?_set]
    by_cases hjk : k = j
    · subst hjk
      rw [if_pos rfl, if_pos rfl]
      have e1 : off + k < cur.size := by omega
      have e2 : k < xs.length := by omega
      simp [e1, e2]
    · rw [if_neg (by omega), if_neg hjk]
      exact h5 j hj
def noItem : Array Value := #[.int .i64 0, .string ⟨#[]⟩, .int .i64 0, .int .i64 0, .int .u32 0]
theorem noItem_put {w : World} {J : Nat} {x0 x1 x2 x3 x4 : Value} {t : TypeId} (h : w.heap[J]? = some (.cells #[x0, x1, x2, x3, x4] t (0, 0))) :
    (((((w.setCell ⟨J, 0, none⟩ (.int .i64 0)).setCell ⟨J, 1, none⟩ (.string ⟨#[]⟩)).setCell ⟨J, 2, none⟩ (.int .i64 0)).setCell ⟨J, 3, none⟩ (.int .i64 0)).setCell ⟨J, 4, none⟩ (.int .u32 0)).heap[J]? = some (.cells noItem t (0, 0)) ∧
    Kept (fun k => k = J) w (((((w.setCell ⟨J, 0, none⟩ (.int .i64 0)).setCell ⟨J, 1, none⟩ (.string ⟨#[]⟩)).setCell ⟨J, 2, none⟩ (.int .i64 0)).setCell ⟨J, 3, none⟩ (.int .i64 0)).setCell ⟨J, 4, none⟩ (.int .u32 0)) :=
  ⟨blkPut (blkPut (blkPut (blkPut (blkPut h 0 _) 1 _) 2 _) 3 _) 4 _, (((((Kept.refl (fun k => k = J) w).setCell ⟨J, 0, none⟩ _ (fun _ => rfl)).setCell ⟨J, 1, none⟩ _ (fun _ => rfl)).setCell ⟨J, 2, none⟩ _ (fun _ => rfl)).setCell ⟨J, 3, none⟩ _ (fun _ => rfl)).setCell ⟨J, 4, none⟩ _ (fun _ => rfl)⟩
theorem noItemAt {w : World} {J : Nat} {t : TypeId} (h : w.heap[J]? = some (.cells noItem t (0, 0))) :
    w.cell? ⟨J, 0, none⟩ = some (.int .i64 0) ∧ w.cell? ⟨J, 1, none⟩ = some (.string ⟨#[]⟩) ∧ w.cell? ⟨J, 2, none⟩ = some (.int .i64 0) ∧ w.cell? ⟨J, 3, none⟩ = some (.int .i64 0) ∧ w.cell? ⟨J, 4, none⟩ = some (.int .u32 0) :=
  ⟨blkCell h rfl, blkCell h rfl, blkCell h rfl, blkCell h rfl, blkCell h rfl⟩
/-- A bit turned. -/
theorem turned (X : UInt8) (sh : Nat) (h : sh < 8) : ∃ Y : UInt8, Y ≠ X ∧ bits BinOp.xor IntKind.u8 (X.toNat : Int) (IntKind.u8.wrap (2 ^ sh)) = (Y.toNat : Int) := by
  have hp : 2 ^ sh < 256 := by
    have : 2 ^ sh ≤ 2 ^ 7 := Nat.pow_le_pow_right (by omega) (by omega)
    omega
  have hw : IntKind.u8.wrap (2 ^ sh) = ((2 ^ sh : Nat) : Int) := by
    rw [IntKind.wrap_u8]
    have e : ((2 : Int) ^ sh) = ((2 ^ sh : Nat) : Int) := by simp
    rw [e]
    generalize 2 ^ sh = P at *
    omega
  have hX := X.toNat_lt
  have hx : X.toNat ^^^ 2 ^ sh < 256 := Nat.xor_lt_two_pow (n := 8) hX hp
  refine ⟨UInt8.ofNat (X.toNat ^^^ 2 ^ sh), ?_, ?_⟩
  · intro e
    have e2 := congrArg UInt8.toNat e
    rw [UInt8.toNat_ofNat', Nat.mod_eq_of_lt hx] at e2
    have : X.toNat ^^^ (X.toNat ^^^ 2 ^ sh) = X.toNat ^^^ X.toNat := by rw [e2]
    rw [← Nat.xor_assoc, Nat.xor_self, Nat.zero_xor] at this
    exact absurd this (by have := Nat.pow_pos (n := sh) (show 0 < 2 by omega); omega)
  · rw [hw, UInt8.toNat_ofNat', Nat.mod_eq_of_lt hx]
    exact u8_xor_nat _ _ hX hp
theorem byteCells_map (s : ByteArray) : byteCells s = s.data.toList.map byteV := rfl

set_option maxRecDepth 20000 in
set_option maxHeartbeats 3200000 in
theorem bytes_yes (kind : Int) (key : ByteArray) (time value : Int) (tag : Nat) (more : ByteArray) (bit : Int) (w : World) (hk : key.size ≤ 9223372036854775807) (h : isItemB kind key value tag = true) (ht : tag < 4294967296)
    (t1 : -9223372036854775808 ≤ time) (t2 : time < 9223372036854775808) (v1 : -9223372036854775808 ≤ value) (v2 : value < 9223372036854775808) (hm : more.size ≤ 140737488351232) (hb1 : -9223372036854775808 ≤ bit) (hb2 : bit ≤ 9223372036854775807) :
    Calls Tryz.prog 6 #[.agg #[.int .i64 kind, .string key, .int .i64 time, .int .i64 value, .int .u32 (tag : Int)], .string more, .int .i64 bit] w fun e w' => e = .returned (.bool true) ∧ Below w.heap.size w w' := by
  obtain ⟨i, hi, hz0, hz1, hz2⟩ := info_parts info5
  obtain ⟨hl9, hl30⟩ := itemBody_len (time := time) h
  have hL := frame_len (time := time) h
  obtain ⟨uV, uN, uE⟩ := unf_frame h ht t1 t2 v1 v2 more.data.toList
  have hfew := fun k hk => unf_fewer (time := time) h k hk
  have hturn := fun k h0 hk y hy => unf_turned (time := time) h more.data.toList k h0 hk y hy
  have hF := fun W => frame_yes kind key time value tag W hk h ht
  generalize hFr : frameBytes kind key time value tag = F at *
  clear hFr
  have HV : Hid (unfV (F ++ more.data.toList) = itemV kind key time value tag ∧ unfN (F ++ more.data.toList) = (F.length : Nat) ∧ unfE (F ++ more.data.toList) = 0) := ⟨uV, uN, uE⟩
  have HF : Hid (∀ k, k < F.length → unfShort (F.take k) = true) := hfew
  have HT : Hid (∀ (k : Nat) (h0 : 1 ≤ k) (hk : k < F.length) (y : UInt8) (hy : y ≠ F[k]), unfShort ((F ++ more.data.toList).set k y) = false ∧ unfOk ((F ++ more.data.toList).set k y) = false) := hturn
  clear uV uN uE hfew hturn
  have hL12 : 12 ≤ F.length ∧ F.length ≤ 40 := by omega
  clear hl9 hl30 hL
  go_enter Tryz.func6, Tryz.ntmps6
  go_upto_region 1 with fail
  have hi1 := heap_alloc_new w (.cells #[.int .i64 kind, .string key, .int .i64 time, .int .i64 value, .int .u32 (tag : Int)] 28)
  have B1 : Hid (Below w.heap.size w (w.alloc (.cells #[.int .i64 kind, .string key, .int .i64 time, .int .i64 value, .int .u32 (tag : Int)] 28))) := (Below.refl _ w).alloc (Nat.le_refl _) _
  generalize w.alloc (.cells #[.int .i64 kind, .string key, .int .i64 time, .int .i64 value, .int .u32 (tag : Int)] 28) = W1 at *
  go_wp2_with fail
  refine (known_true W1).mono ?_
  rintro e W2 ⟨rfl, hb2'⟩
  have hi2 := blkBelow hi1 hb2'
  have B2 : Hid (Below w.heap.size w W2) := B1.out.trans (hb2'.mono B1.out.size)
  clear hi1 hb2' B1
  obtain ⟨i0, i1, i2, i3, i4⟩ := itemAt hi2
  go_wp2_with fail
  refine (hF W2).mono ?_
  rintro e W3 ⟨v', rfl, hr3, hg3, hb3⟩
  have hi3 := blkBelow hi2 hb3
  have B3 : Hid (Below w.heap.size w W3) := B2.out.trans (hb3.mono B2.out.size)
  have hl3 : (F.map byteV).length = F.length := List.length_map _
  have hne3 : F.map byteV ≠ [] := by intro e; rw [e] at hl3; simp at hl3; omega
  obtain ⟨vg, vo, vn, vc, hv', hvn, hvc⟩ := hr3.shape hne3
  subst hv'
  have hvn' : vn = F.length := by rw [hl3] at hvn; omega
  subst hvn'
  have HR3 : Hid (Row W3 5 1 (.slice (some ⟨vg, vo, none⟩) F.length vc) (F.map byteV)) := hr3
  have hvg3 := (hr3.blk_lt (k := vg) rfl).1
  clear hi2 hb3 B2 i0 i1 i2 i3 i4 hF hr3 hg3
  have S3 : Src Tryz.prog 1 30 (.slice (some ⟨vg, vo, none⟩) F.length vc) F.length (F.map byteV) W3 := by
    have := Row.src (P := Tryz.prog) _ HR3.out (oneCell_bytes F) Tryz.underlying30
    rw [List.length_map] at this; exact this
  go_upto_region 9 with fail
  go_wp2_with (at_builtin; go_must (refine wpList_append _ rfl _ _ _ _ rfl 5 i (.int .u8 0) 1 1 Tryz.underlying30 hi hz0 hz1 hz2 rfl Nat.one_pos (.slice none 0 0) [] rfl (Row.nil _ _ _) (.slice (some ⟨vg, vo, none⟩) F.length vc) F.length (F.map byteV) rfl S3 ?hm ?h63 ?hby ?next))
  case hm => omega
  case h63 => simp only [maxLen, List.length_nil]; omega
  case hby => simp only [List.length_nil]; omega
  intro a4 W4 ha4
  have r4 := ha4.row
  rw [List.nil_append] at r4
  have b4 := ha4.below (B := W3.heap.size) (by intro g hg; simp [Value.ownBlock] at hg) (Nat.le_refl _)
  have g4 := ha4.blk (B := W3.heap.size) (by intro g hg; simp [Value.ownBlock] at hg) (Nat.le_refl _)
  have hi4 := blkBelow hi3 b4
  have B4 : Hid (Below w.heap.size w W4) := B3.out.trans (b4.mono B3.out.size)
  have HR4 : Hid (Row W4 5 1 (.slice (some ⟨vg, vo, none⟩) F.length vc) (F.map byteV)) := HR3.out.below b4 (fun k hk => by simp only [Value.ownBlock, Option.some.injEq] at hk; omega)
  have HA4 : Hid (Row W4 5 1 a4 (F.map byteV)) := r4
  have hz3 := B3.out.size
  clear ha4 r4 S3 HR3 B3 hi3
  have hg4' : ∀ g, a4.ownBlock = some g → g ≠ vg := fun g hg => by have := g4 g hg; omega
  obtain ⟨ag, ao, an, ac, ha4v, han, hac⟩ := HA4.out.shape hne3
  subst ha4v
  have han' : an = F.length := by rw [hl3] at han; omega
  subst han'
  have hagv : ag ≠ vg := hg4' ag rfl
  have hagB : W3.heap.size ≤ ag := g4 ag rfl
  clear hg4' g4
  go_wp2_with (at_builtin; go_must (refine wpList_append_any _ rfl _ _ _ _ rfl 5 i (.int .u8 0) 1 1 Tryz.underlying30 hi hz0 hz1 hz2 rfl Nat.one_pos (.slice (some ⟨ag, ao, none⟩) F.length ac) (F.map byteV) rfl HA4.out (.string more) more.size (byteCells more) rfl (Src.ofString _ Tryz.underlying9 more) ?h63b ?hbyb ?nextb))
  case h63b => rw [hl3]; simp only [maxLen]; omega
  case hbyb => rw [hl3]; omega
  intro a5 W5 ha5 _
  have r5 := ha5.row
  rw [byteCells_map, ← List.map_append] at r5
  have k5 := Kept.ofGrown ha5.grown
  have hagw : w.heap.size ≤ ag := by have := b4.size; have := B4.out.size; omega
  have b5 : Below w.heap.size W4 W5 := k5.toBelow B4.out.size (fun k hk e => by simp only [Value.ownBlock, Option.some.injEq] at e; omega)
  have hi5 : W5.heap[w.heap.size]? = some (.cells #[.int .i64 kind, .string key, .int .i64 time, .int .i64 value, .int .u32 (tag : Int)] 28 (0, 0)) := by
    rw [k5.block _ (blkLt hi4) (fun e => by simp only [Value.ownBlock, Option.some.injEq] at e; have := b4.size; have h5 := blkLt hi4; have := HR4.out; exact absurd (HA4.out.ne_block (g := ag) (c := #[.int .i64 kind, .string key, .int .i64 time, .int .i64 value, .int .u32 (tag : Int)]) (f := (0, 0)) (by rw [e]; exact hi4) (by decide) rfl) id)]
    exact hi4
  have HR5 : Hid (Row W5 5 1 (.slice (some ⟨vg, vo, none⟩) F.length vc) (F.map byteV)) := HR4.out.kept k5 (fun k hk e => by simp only [Value.ownBlock, Option.some.injEq] at hk e; omega)
  have hg5 : ∀ g, a5.ownBlock = some g → g = ag ∨ W4.heap.size ≤ g := fun g hg => by
    rcases ha5.step with ⟨h1, _⟩ | ⟨h1, _⟩
    · rw [h1] at hg; simp only [Value.ownBlock, Option.some.injEq] at hg; exact .inl hg.symm
    · rw [h1] at hg; simp only [Option.some.injEq] at hg; exact .inr (by omega)
  have B5 : Hid (Below w.heap.size w W5) := B4.out.trans b5
  have HA5 : Hid (Row W5 5 1 a5 ((F ++ more.data.toList).map byteV)) := r5
  have hml : more.data.toList.length = more.size := by rw [Array.length_toList]; rfl
  have hl5 : ((F ++ more.data.toList).map byteV).length = F.length + more.size := by rw [List.length_map, List.length_append, hml]
  obtain ⟨cg, co, cn, cc, ha5v, hcn, hcc⟩ := HA5.out.shape (by intro e; rw [e] at hl5; simp at hl5; omega)
  subst ha5v
  have hcn' : cn = F.length + more.size := by rw [hl5] at hcn; omega
  subst hcn'
  have hcgB : w.heap.size ≤ cg ∧ cg ≠ vg := by
    have h4 := b4.size
    have h3 := B4.out.size
    rcases hg5 cg rfl with e | e
    · rw [e]; exact ⟨hagw, hagv⟩
    · exact ⟨by omega, by omega⟩
  clear hg5 ha5 r5 k5 b5 HR4 HA4 hi4 B4
  have hU := unframe_row _ _ W5 HA5.out (by rw [List.length_append, hml]; omega)
  rw [HV.out.1, HV.out.2.1, HV.out.2.2] at hU
  unfold itemV at hU
  go_wp2_with fail
  refine hU.mono ?_
  rintro e W6 ⟨rfl, hb6⟩
  have hi6 := blkBelow hi5 hb6
  have B6 : Hid (Below w.heap.size w W6) := B5.out.trans (hb6.mono B5.out.size)
  have HR6 : Hid (Row W6 5 1 (.slice (some ⟨vg, vo, none⟩) F.length vc) (F.map byteV)) := HR5.out.below hb6 (fun k hk => (HR5.out.blk_lt hk).1)
  have HA6 : Hid (Row W6 5 1 (.slice (some ⟨cg, co, none⟩) (F.length + more.size) cc) ((F ++ more.data.toList).map byteV)) := HA5.out.below hb6 (fun k hk => (HA5.out.blk_lt hk).1)
  clear hU hi5 hb6 B5 HR5 HA5
  go_upto_region 12 with fail
  have hj7 := heap_alloc_new W6 (.cells #[.int .i64 kind, .string key, .int .i64 time, .int .i64 value, .int .u32 (tag : Int)] 28)
  have hb7 : Below W6.heap.size W6 (W6.alloc (.cells #[.int .i64 kind, .string key, .int .i64 time, .int .i64 value, .int .u32 (tag : Int)] 28)) := (Below.refl _ W6).alloc (Nat.le_refl _) _
  have hi7 := blkBelow hi6 hb7
  have B7 : Hid (Below w.heap.size w (W6.alloc (.cells #[.int .i64 kind, .string key, .int .i64 time, .int .i64 value, .int .u32 (tag : Int)] 28))) := B6.out.trans (hb7.mono B6.out.size)
  have HR7 := HR6.out.below hb7 (fun k hk => (HR6.out.blk_lt hk).1)
  have HA7 := HA6.out.below hb7 (fun k hk => (HA6.out.blk_lt hk).1)
  have hJ : w.heap.size < W6.heap.size := blkLt hi6
  have hJv : vg ≠ W6.heap.size := by have := (HR6.out.blk_lt (k := vg) rfl).1; omega
  have hJc : cg ≠ W6.heap.size := by have := (HA6.out.blk_lt (k := cg) rfl).1; omega
  generalize W6.alloc (.cells #[.int .i64 kind, .string key, .int .i64 time, .int .i64 value, .int .u32 (tag : Int)] 28) = W7 at *
  generalize W6.heap.size = J at *
  obtain ⟨B, HB⟩ : ∃ B, Hid (w.heap.size = B) := ⟨_, rfl⟩
  rw [HB.out] at hi7 B7 hJ hcgB ⊢
  clear hi6 hb7 HR6 HA6 B6 hz3 hagw hagB hagv b4 hvg3
  have HR7' : Hid (Row W7 5 1 (.slice (some ⟨vg, vo, none⟩) F.length vc) (F.map byteV)) := HR7
  have HA7' : Hid (Row W7 5 1 (.slice (some ⟨cg, co, none⟩) (F.length + more.size) cc) ((F ++ more.data.toList).map byteV)) := HA7
  clear HR7 HA7
  obtain ⟨i0, i1, i2, i3, i4⟩ := itemAt hi7
  obtain ⟨j0, j1, j2, j3, j4⟩ := itemAt hj7
  have hlen12 : ¬ ((F.length : Int) < 12) := by omega
  go_wp2_with fail
  have hp := fun W => pick_any bit (F.length : Int) W hb1 hb2 (by omega) (by omega)
  obtain ⟨p1, p2⟩ := pickZ_lt bit (F.length : Int) (by omega)
  obtain ⟨q, hq⟩ := Int.eq_ofNat_of_zero_le p1
  rw [hq] at hp p2
  clear p1 hq
  refine (hp _).mono ?_
  rintro e W8 ⟨rfl, rfl⟩
  have hqc : ((q : Nat) : Int) ≤ (vc : Int) := by omega
  go_wp2_with fail
  have hrq := HR7'.out.cut q (by omega)
  rw [← List.map_take] at hrq
  have hU2 := unframe_row _ _ W8 hrq (by simp; omega)
  obtain ⟨e1, e2, e3⟩ := unf_short _ (HF.out q (by omega))
  rw [e1, e2, e3] at hU2
  unfold itemNone at hU2
  clear e1 e2 e3 hrq hp
  refine calls_fit #[.slice (some ⟨vg, vo, none⟩) q vc] rfl hU2 ?_
  rintro e W9 ⟨rfl, hb9⟩
  have hi9 := blkBelow hi7 hb9
  have hj9 := blkBelow hj7 hb9
  have B9 : Hid (Below B w W9) := B7.out.trans (hb9.mono (by have := blkLt hj7; omega))
  have HR9 : Hid (Row W9 5 1 (.slice (some ⟨vg, vo, none⟩) F.length vc) (F.map byteV)) := HR7'.out.below hb9 (fun k hk => (HR7'.out.blk_lt hk).1)
  have HA9 : Hid (Row W9 5 1 (.slice (some ⟨cg, co, none⟩) (F.length + more.size) cc) ((F ++ more.data.toList).map byteV)) := HA7'.out.below hb9 (fun k hk => (HA7'.out.blk_lt hk).1)
  clear hU2 hb9 hi7 hj7 B7 HR7' HA7' i0 i1 i2 i3 i4 j0 j1 j2 j3 j4
  obtain ⟨j0, j1, j2, j3, j4⟩ := itemAt hj9
  have jf := blkFrozen hj9
  go_upto_region 15 with fail
  obtain ⟨hj10, k10⟩ := noItem_put hj9
  clear j0 j1 j2 j3 j4 jf
  generalize ((((W9.setCell ⟨J, 0, none⟩ (.int .i64 0)).setCell ⟨J, 1, none⟩ (.string ⟨#[]⟩)).setCell ⟨J, 2, none⟩ (.int .i64 0)).setCell ⟨J, 3, none⟩ (.int .i64 0)).setCell ⟨J, 4, none⟩ (.int .u32 0) = W10 at *
  have hi10 : W10.heap[B]? = some (.cells #[.int .i64 kind, .string key, .int .i64 time, .int .i64 value, .int .u32 (tag : Int)] 28 (0, 0)) := (k10.block B (blkLt hi9) (fun e => by omega)).trans hi9
  have B10 : Hid (Below B w W10) := B9.out.trans (k10.toBelow (by have := blkLt hj9; omega) (fun k hk e => by omega))
  have HR10 : Hid (Row W10 5 1 (.slice (some ⟨vg, vo, none⟩) F.length vc) (F.map byteV)) := HR9.out.kept k10 (fun k hk e => by simp only [Value.ownBlock, Option.some.injEq] at hk; omega)
  have HA10 : Hid (Row W10 5 1 (.slice (some ⟨cg, co, none⟩) (F.length + more.size) cc) ((F ++ more.data.toList).map byteV)) := HA9.out.kept k10 (fun k hk e => by simp only [Value.ownBlock, Option.some.injEq] at hk; omega)
  clear k10 hi9 hj9 B9 HR9 HA9
  obtain ⟨j0, j1, j2, j3, j4⟩ := noItemAt hj10
  have hp := fun W => pick_any bit (8 * ((F.length : Int) - 1)) W hb1 hb2 (by omega) (by omega)
  obtain ⟨p1, p2'⟩ := pickZ_lt bit (8 * ((F.length : Int) - 1)) (by omega)
  obtain ⟨s, hs⟩ := Int.eq_ofNat_of_zero_le p1
  rw [hs] at hp p2'
  clear p1 hs
  go_wp2_with fail
  refine (hp _).mono ?_
  rintro e W11 ⟨rfl, rfl⟩
  go_upto_region 18 with fail
  obtain ⟨j, hj⟩ : ∃ j : Nat, 1 + s / 8 = j := ⟨_, rfl⟩
  obtain ⟨sh, hsh⟩ : ∃ sh : Nat, s % 8 = sh := ⟨_, rfl⟩
  have d1 : IntKind.i64.wrap (Int.tdiv (8 + (s : Int)) 8) = (j : Int) := by
    rw [show (8 + (s : Int)) = ((8 + s : Nat) : Int) from by omega, show (8 : Int) = ((8 : Nat) : Int) from rfl, Int.tdiv_eq_ediv_of_nonneg (by omega), IntKind.wrap_i64]
    omega
  have d2 : Int.tmod (8 + (s : Int)) 8 = (sh : Int) := by
    rw [show (8 + (s : Int)) = ((8 + s : Nat) : Int) from by omega, show (8 : Int) = ((8 : Nat) : Int) from rfl, tmod_nat]
    omega
  have hsh0 : (0 : Int) ≤ (sh : Int) := by omega
  obtain ⟨K, HK⟩ : ∃ K : Int, Hid (8 + (s : Int) = K) := ⟨_, rfl⟩
  rw [HK.out] at d1 d2 ⊢
  have hj1 : 1 ≤ j := by omega
  have hjF : j < F.length := by omega
  have hs8 : sh < 8 := by omega
  have hjn : (j : Int) < ((F.length + more.size : Nat) : Int) := by omega
  have hjn2 : (j : Int) < (F.length : Int) + (more.size : Int) := by omega
  have hjn3 : j < F.length + more.size := by omega
  have hcj : W11.cell? ⟨cg, co + j, none⟩ = some (byteV F[j]) := by
    have := HA10.out.cell j (by omega)
    rw [List.getElem?_map, List.getElem?_append_left hjF, List.getElem?_eq_getElem hjF] at this
    exact this
  have hcf := HA10.out.frozen (co + j)
  unfold byteV at hcj
  refine wp_region_still_tail 13 (by kernel_rfl) (by kernel_rfl) ?_
  simp only [List.take_succ_cons, List.take_zero, List.drop_succ_cons, List.drop_zero]
  change wpStill Tryz.prog _ W11.drew (fun a' => wpList Tryz.prog _ _ _ a' W11.drew) _ _
  have hcj : W11.drew.cell? ⟨cg, co + j, none⟩ = some (.int .u8 (F[j].toNat : Int)) := hcj
  have hcf : W11.drew.frozen? ⟨cg, co + j, none⟩ = false := hcf
  have hjj : W11.drew.heap[J]? = some (.cells noItem 28 (0, 0)) := hj10
  have B12 : Hid (Below B w W11.drew) := B10.out.drew
  have HA12 : Hid (Row W11.drew 5 1 (.slice (some ⟨cg, co, none⟩) (F.length + more.size) cc) ((F ++ more.data.toList).map byteV)) := HA10.out.congr (fun _ _ => rfl)
  clear B10 HA10 HR10 hj10 hi10 j0 j1 j2 j3 j4 hp
  generalize W11.drew = W12 at *
  have HX : Hid (∃ X : UInt8, F[j] = X) := ⟨_, rfl⟩
  obtain ⟨X, hX⟩ := HX.out
  rw [hX] at hcj
  have HX : Hid (F[j] = X) := hX
  clear hX
  repeat still_step
  refine wpStill_nil ?_
  obtain ⟨Y, hYX, hY⟩ := turned X sh hs8
  rw [hY]
  have hYb : Hid (Y ≠ F[j]) := by show Y ≠ F[j]; rw [HX.out]; exact hYX
  clear hY hYX HX
  have rs := HA12.out.put j (by omega) (byteV Y)
  rw [← List.map_set] at rs
  have bs : Below B w (W12.setCell ⟨cg, co + j, none⟩ (byteV Y)) := B12.out.setCell (p := ⟨cg, co + j, none⟩) hcgB.1 _
  have js := blkOther hjj cg (co + j) (byteV Y) (fun e => hJc e.symm)
  unfold byteV at rs bs js
  obtain ⟨u1, u2⟩ := HT.out j hj1 hjF Y hYb.out
  go_wp2_with fail
  have hU3 := unframe_row _ _ (W12.setCell ⟨cg, co + j, none⟩ (.int .u8 (Y.toNat : Int))) rs (by rw [List.length_set, List.length_append, hml]; omega)
  obtain ⟨e1, e2, e3⟩ := unf_bad _ u1 u2
  rw [e1, e2, e3] at hU3
  unfold itemNone at hU3
  clear e1 e2 e3 u1 u2 rs HA12 HT HF HV
  generalize W12.setCell ⟨cg, co + j, none⟩ (.int .u8 (Y.toNat : Int)) = W13 at *
  refine calls_fit #[.slice (some ⟨cg, co, none⟩) (F.length + more.size) cc] rfl hU3 ?_
  rintro e W14 ⟨rfl, hb14⟩
  have hj14 := blkBelow js hb14
  have B14 : Hid (Below B w W14) := bs.trans (hb14.mono (by have := bs.size; have := HB.out; omega))
  clear hU3 hb14 js bs hcj hcf hjj B12
  obtain ⟨j0, j1', j2, j3, j4⟩ := noItemAt hj14
  have jf := blkFrozen hj14
  go_upto_region 20 with fail
  obtain ⟨hj15, k15⟩ := noItem_put hj14
  clear j0 j1' j2 j3 j4 jf
  generalize ((((W14.setCell ⟨J, 0, none⟩ (.int .i64 0)).setCell ⟨J, 1, none⟩ (.string ⟨#[]⟩)).setCell ⟨J, 2, none⟩ (.int .i64 0)).setCell ⟨J, 3, none⟩ (.int .i64 0)).setCell ⟨J, 4, none⟩ (.int .u32 0) = W15 at *
  have B15 : Hid (Below B w W15) := B14.out.trans (k15.toBelow (by have := blkLt hj14; omega) (fun k hk e => by omega))
  clear k15 hj14 B14
  obtain ⟨j0, j1', j2, j3, j4⟩ := noItemAt hj15
  go_wp2
  go_ret
  exact ⟨rfl, by rw [HB.out]; exact B15.out⟩
end Go.Proofs.YtcfngdnmpogaoaaGreat

namespace Go.Proofs.YtcfngdnmpogaoaaGreat
open Go.ChangeShapes Go.WideShapes Go.ChangeAt Go.RowKit

theorem ownB : ownKnob Tryz.prog.godebug = none := by kernel_rfl
theorem laidOutB' : laidOutB Tryz.prog = true := by kernel_rfl
theorem bcell3 : Tryz.prog.cellsOf 3 = 1 := by kernel_rfl
theorem bcell2 : Tryz.prog.cellsOf 2 = 1 := by kernel_rfl
theorem bcell9 : Tryz.prog.cellsOf 9 = 1 := by kernel_rfl
theorem bcell42 : Tryz.prog.cellsOf 26 = 1 := by kernel_rfl
theorem bcell44 : Tryz.prog.cellsOf 28 = 5 := by kernel_rfl
theorem blist5 {α : Type} {l : List α} (h : l.length = 5) : ∃ a b c d e, l = [a, b, c, d, e] := by
  match l, h with
  | [a, b, c, d, e], _ => exact ⟨a, b, c, d, e, rfl⟩
theorem i64_bounds {x : Int} (h : (Lit.int .i64 x).wf = true) : -9223372036854775808 ≤ x ∧ x ≤ 9223372036854775807 := by
  have := bounds_i64 h
  omega

theorem bopen_item {H : Type} {enc : TypeId × Value → H} {w : World} {base : Nat} {spare : Nat → Bool} {held : Bool} {fuel : Nat} {cs : List Value} {x : DataW H × List MemPlace} (h : DataW.trod enc Tryz.prog w base spare held fuel 28 cs = some x) :
    ∃ (k : Int) (key : ByteArray) (t v : Int) (tag : Nat), cs = [.int .i64 k, .string key, .int .i64 t, .int .i64 v, .int .u32 (tag : Int)] ∧ key.size ≤ maxLen ∧ tag < 4294967296 ∧ (-9223372036854775808 ≤ t ∧ t ≤ 9223372036854775807) ∧ (-9223372036854775808 ≤ v ∧ v ≤ 9223372036854775807) := by
  obtain ⟨xs, n, _, rfl, hl, hlen, hf⟩ := DataW.trod_struct Tryz.underlying28 h
  rw [bcell44] at hl
  obtain ⟨a, b, c, d, e, rfl⟩ := blist5 hl
  have e0 := hf 0 ⟨ "Kind", 3, 0, false, "", "", 0⟩ rfl
  have e1 := hf 1 ⟨ "Key", 9, 1, false, "", "", 8⟩ rfl
  have e2 := hf 2 ⟨ "Time", 2, 2, false, "", "", 24⟩ rfl
  have e3 := hf 3 ⟨ "Value", 2, 3, false, "", "", 32⟩ rfl
  have e4 := hf 4 ⟨ "Tag", 26, 4, false, "", "", 40⟩ rfl
  simp only [bcell3, bcell9, bcell2, bcell42, List.drop_zero, List.drop_succ_cons, List.take_succ_cons, List.take_zero] at e0 e1 e2 e3 e4
  obtain ⟨y0, y1, y2, y3, y4, rfl⟩ := blist5 (l := xs) (by rw [hlen]; rfl)
  try simp only [List.getElem?_cons_zero, List.getElem?_cons_succ] at e0 e1 e2 e3 e4
  obtain ⟨k, hk, _, _⟩ := DataW.trod_int Tryz.underlying3 e0
  obtain ⟨key, hkey, _, hks⟩ := DataW.trod_string Tryz.underlying9 e1
  obtain ⟨t, ht, _, wt⟩ := DataW.trod_int Tryz.underlying2 e2
  obtain ⟨v, hv, _, wv⟩ := DataW.trod_int Tryz.underlying2 e3
  obtain ⟨tag, htag, _, hwf⟩ := DataW.trod_int Tryz.underlying26 e4
  have hb := bounds_u32 hwf
  obtain ⟨tg, rfl⟩ := Int.eq_ofNat_of_zero_le hb.1
  simp only [List.cons.injEq, and_true] at hk hkey ht hv htag
  subst hk hkey ht hv htag
  exact ⟨k, key, t, v, tg, rfl, hks, by omega, i64_bounds wt, i64_bounds wv⟩

set_option maxRecDepth 100000 in
theorem bytes_lifted (os : Os) (started : os.Started) (H : Type) (enc : TypeId × Value → H) :
    ReturnsInHanded {} Tryz.checked os 6 .any (Rows.bytesSpec.pre6 enc Tryz.prog Tryz.f6 Rows.bytesRow.domain false) (Rows.bytesSpec.post enc Tryz.prog Tryz.f6 false true false false) := by
  refine returnsInHanded_of_change_sized (C := Tryz.checked) ownB started (by kernel_rfl) Tryz.func6
    (ChangeSpec.witness6 (enc := enc) (C := Tryz.checked) false ⟨#[], #[.agg #[.int .i64 0, .string ⟨#[]⟩, .int .i64 0, .int .i64 0, .int .u32 0], .string ⟨#[]⟩, .int .i64 0], []⟩ 8 (by kernel_rfl) (by kernel_rfl) (by kernel_rfl) (by kernel_rfl)) ?_
  intro W base args ds gs before hval0 hW _ hsz0 _
  have hval : ∀ (j : Nat) t v, Tryz.f6.params[j]? = some t → args[j]? = some v → Value.okWide Tryz.prog W .any base t v := hval0
  have hsz : (DataW.weightsEach Tryz.prog (Tryz.f6.params.toList ++ Rows.bytesSpec.plain.varTypes Tryz.prog) (ds ++ gs)).all (· ≤ reachBytes) = true := hsz0
  have hW' := hW
  obtain ⟨p, q, hA0, hV, rfl, _, _⟩ := hW
  have hA : DataW.TrodAll enc Tryz.prog W 0 (fun _ => true) true Tryz.f6.params.toList args.toList ds p := hA0
  rw [Tryz.params6] at hA hval hsz
  obtain ⟨v0, vs0, d0, ds0, p0, q0, hargs, rfl, rfl, h0, r0⟩ := trodAll_cons hA
  obtain ⟨v1, vs1, d1, ds1, p1, q1, rfl, rfl, rfl, h1, r1⟩ := trodAll_cons r0
  obtain ⟨v2, vs2, d2, ds2, p2, q2, rfl, rfl, rfl, h2, r2⟩ := trodAll_cons r1
  obtain ⟨rfl, rfl, rfl⟩ := trodAll_nil r2
  obtain rfl : args = #[v0, v1, v2] := by cases args; simp_all
  obtain ⟨rfl, rfl⟩ := trodVars_none hV
  clear hA0 hval0
  simp only [List.append_nil] at hW'
  have hlt : ∀ x ∈ p0 ++ (p1 ++ p2), x.block < W.heap.size := fun x hx => by simpa using hW'.lt x hx
  obtain ⟨s1, rfl, rfl, rfl, ws1⟩ := ChangeMaps.open_string Tryz.underlying9 (hval 1 9 v1 rfl rfl) h1
  obtain ⟨a2, rfl, rfl, rfl, w2⟩ := open_int Tryz.underlying3 (hval 2 3 v2 rfl rfl) h2
  have hsl := sized_string hsz (j := 1) (t := 9) rfl rfl
  have b2 := i64_bounds w2
  obtain ⟨cs, rfl, -⟩ := okWide_struct Tryz.underlying28 (hval 0 28 v0 rfl rfl)
  have h0k := h0
  obtain ⟨fuel, hf⟩ := h0
  obtain ⟨k, key, t, v, tag, hcs, hks, htg, hbt, hbv⟩ := bopen_item hf
  have hcs' : cs = #[.int .i64 k, .string key, .int .i64 t, .int .i64 v, .int .u32 (tag : Int)] := by
    have : (Value.agg cs).cells = cs := rfl
    rw [this] at hcs
    exact Array.toList_inj.1 hcs
  have hrb : reachBytes = 140737488351232 := rfl
  rw [hrb] at hsl
  have hms : s1.size ≤ 140737488351232 := by
    have : s1.data.toList.length = s1.size := by rw [Array.length_toList]; rfl
    omega
  have hwalk : Calls Tryz.prog 6 #[.agg cs, .string s1, .int .i64 a2] W fun e w' => e = .returned (.bool true) ∧ Below W.heap.size W w' := by
    rw [hcs']
    unfold maxLen at hks
    cases hit : isItemB k key v tag with
    | true => exact bytes_yes k key t v tag s1 a2 W (by omega) hit htg hbt.1 (by omega) hbv.1 (by omega) hms b2.1 b2.2
    | false => exact bytes_no k key t v tag s1 a2 W (by omega) hit
  have hargs0 : ∀ (W' : World), Below W.heap.size W W' → DataW.Trod enc Tryz.prog W' 0 (fun b => decide (b < W.heap.size)) true 28 (.agg cs) d0 p0 :=
    fun W' hn => Below.trod laidOutB' (by kernel_rfl) (of_decide_eq_true (by kernel_rfl)) h0k hn (fun x hx => hlt x (List.mem_append_left _ hx))
  refine hwalk.mono fun e W' ⟨he, hb⟩ => ?_
  subst he
  exact ⟨_, rfl, ⟨_, _, _, [], _, [], hW', trodAll_mk1 (shut_bool Tryz.underlying4 _), trodAll_cons_mk (hargs0 W' hb) (trodAll_cons_mk (ChangeMaps.shut_string Tryz.underlying9 ws1) (trodAll_cons_mk (shut_int Tryz.underlying3 w2) trodAll_mk0)), rfl, hb.frame _, fun h => by cases h⟩⟩

theorem bytes_holds : Rows.BytesSaid :=
  OpenClaim.holds_of_wide 6 Tryz.f6 rfl rfl rfl rfl rfl rfl rfl ⟨rfl, rfl, rfl, rfl, rfl⟩ rfl rfl rfl rfl rfl (by kernel_rfl) Tryz.func6 (by kernel_rfl)
    (of_decide_eq_true (by kernel_rfl)) (by unfold Func.isWrapper; first | (rw [if_pos (by decide +kernel)]; kernel_rfl) | (rw [if_neg (by decide +kernel)]; exact ⟨rfl, rfl⟩))
    (fun os started H enc _ => bytes_lifted os started H enc)

end Go.Proofs.YtcfngdnmpogaoaaGreat
