import Derived.Test.YtcfngdnmpogaoaaGreatLinesUptoT24
import Derived.Test.YtcfngdnmpogaoaaGreatLinesUptoT21
import Derived.Test.YtcfngdnmpogaoaaGreatLinesUptoT02
import Derived.Test.YtcfngdnmpogaoaaGreatLinesUptoT18

/-
  The reference's sources and the code's: one line.
-/
namespace Go.Proofs.YtcfngdnmpogaoaaGreat
open Go.RowKit

/-- A source of the code's, and the reference's. -/
structure SrcRel (late : Int) (s : SrcS) (t : RSrc) : Prop where
  op : t.opened = s.opened
  br : t.broken = s.broken
  off : s.opened = false ∨ s.broken = true → s.is = false
  re : s.opened = true → s.broken = false → t.reached = s.is ∧ (s.is = true → t.reach = s.time - late)
def SrcRels (late : Int) (ss : List SrcS) (ts : List RSrc) : Prop := ss.length = ts.length ∧ ∀ (i : Nat) s t, ss[i]? = some s → ts[i]? = some t → SrcRel late s t

def MomRel (late : Int) (m m' : Int × Bool) : Prop := m'.2 = m.2 ∧ (m.2 = true → m'.1 = m.1 - late)
theorem step_rel {late : Int} {m m' : Int × Bool} {s : SrcS} {t : RSrc} (h : MomRel late m m') (hs : SrcRel late s t) : MomRel late (leastStepS m s) (leastRStep m' t) := by
  obtain ⟨h1, h2⟩ := h
  unfold leastStepS leastRStep rTest
  by_cases ho : s.opened = true ∧ s.broken = false
  · obtain ⟨o, b⟩ := ho
    obtain ⟨r1, r2⟩ := hs.re o b
    rw [hs.op, hs.br, o, b, r1, h1]
    cases hi : s.is with
    | false => simp only [Bool.false_and, Bool.and_false, Bool.not_false, Bool.false_eq_true, if_false]; exact ⟨h1, h2⟩
    | true =>
      have r3 := r2 hi
      cases hm : m.2 with
      | false =>
        simp only [Bool.not_false, Bool.true_or, Bool.and_self, if_true]
        exact ⟨rfl, fun _ => r3⟩
      | true =>
        have h3 := h2 hm
        have hd : decide (t.reach < m'.1) = decide (s.time < m.1) := by
          rw [r3, h3]
          exact decide_eq_decide.2 (by omega)
        rw [hd]
        cases hdd : decide (s.time < m.1) with
        | true =>
          simp only [Bool.not_true, Bool.false_or, Bool.not_false, Bool.and_self, if_true]
          exact ⟨rfl, fun _ => r3⟩
        | false =>
          simp only [Bool.not_true, Bool.or_self, Bool.and_false, Bool.false_eq_true, if_false]
          exact ⟨h1, h2⟩
  · have hoff : s.is = false := hs.off (by
      cases ho' : s.opened with
      | false => exact .inl rfl
      | true =>
        right
        cases hb : s.broken with
        | true => rfl
        | false => exact absurd ⟨ho', hb⟩ ho)
    have ht : (t.opened && (!t.broken && (t.reached && (!m'.2 || decide (t.reach < m'.1))))) = false := by
      rw [hs.op, hs.br]
      cases ho' : s.opened with
      | false => rfl
      | true =>
        cases hb : s.broken with
        | true => rfl
        | false => exact absurd ⟨ho', hb⟩ ho
    rw [ht, hoff]
    simp only [Bool.false_and, Bool.false_eq_true, if_false]
    exact ⟨h1, h2⟩

theorem least_rel {late : Int} {ss : List SrcS} {ts : List RSrc} (h : SrcRels late ss ts) : MomRel late (leastS ss) (leastR ts) := by
  have key : ∀ (ss : List SrcS) (ts : List RSrc) (m m' : Int × Bool), SrcRels late ss ts → MomRel late m m' → MomRel late (ss.foldl leastStepS m) (ts.foldl leastRStep m') := by
    intro ss
    induction ss with
    | nil =>
      intro ts m m' h hm
      have : ts = [] := List.eq_nil_of_length_eq_zero (by have := h.1; simp at this; omega)
      subst this; exact hm
    | cons s ss ih =>
      intro ts m m' h hm
      cases ts with
      | nil => have := h.1; simp at this
      | cons t ts =>
        refine ih ts _ _ ⟨by have := h.1; simpa using this, fun i a b ha hb => h.2 (i + 1) a b (by simpa using ha) (by simpa using hb)⟩ (step_rel hm (h.2 0 s t rfl rfl))
  exact key ss ts _ _ h ⟨rfl, fun e => by cases e⟩

/-- One line behind 'lines' and moveLine. -/
theorem line_rel {late : Int} {ss : List SrcS} {r : RCells} {lt : Int} {li : Bool} (E : List Ev) (h : SrcRels late ss r.src) (h1 : r.line = lt) (h2 : r.lined = li) :
    (linesF r E = none → lineF late ss lt li = (lt, li)) ∧ ∀ t, linesF r E = some t → lineF late ss lt li = (t, true) := by
  obtain ⟨m1, m2⟩ := least_rel h
  unfold linesF lineF
  rw [h1, h2, m1]
  cases hm : (leastS ss).2 with
  | false => simp
  | true =>
    have m3 := m2 hm
    rw [m3]
    cases li with
    | false => simp
    | true =>
      by_cases hle : (leastS ss).1 - late ≤ lt
      · have : ¬ lt < (leastS ss).1 - late := by omega
        simp [hle, this]
      · have : lt < (leastS ss).1 - late := by omega
        simp [hle, this]
end Go.Proofs.YtcfngdnmpogaoaaGreat

/-
  The reference's 'going', walked: which keys are going on.
-/
namespace Go.Proofs.YtcfngdnmpogaoaaGreat
open Go.RowKit

theorem infoStr : (Tryz.prog.info? 9).map (fun i => (i.zero, i.size, i.bytes)) = some (some (.string ⟨#[]⟩), 1, 16) := by kernel_rfl
theorem str_src (w : World) (x : ByteArray) : Src Tryz.prog 1 233 (.slice (some ⟨w.heap.size, 0, none⟩) 1 1) 1 [.string x] (w.alloc (.cells #[.string x] 9)) :=
  Src.ofSlice _ Tryz.underlying233 ⟨w.heap.size, 0, none⟩ 1 1 _ rfl (one_new w _ _) (by simp [Value.oneCell'])

def isGoF (size slide lt : Int) (li : Bool) (E : List Ev) (key : ByteArray) : Bool := E.any fun e => !behind size slide lt li e && keyEq e.key key
theorem isGoF_take (size slide lt : Int) (li : Bool) (E : List Ev) (key : ByteArray) (n : Nat) (e : Ev) (h : E[n]? = some e) : isGoF size slide lt li (E.take (n + 1)) key = (isGoF size slide lt li (E.take n) key || (!behind size slide lt li e && keyEq e.key key)) := by
  have hn : n < E.length := (List.getElem?_eq_some_iff.1 h).1
  have he : E[n] = e := (List.getElem?_eq_some_iff.1 h).2
  unfold isGoF
  rw [List.take_succ_eq_append_getElem hn, List.any_append, he]; simp
theorem goKeys_take (size slide lt : Int) (li : Bool) (E : List Ev) (n : Nat) (e : Ev) (h : E[n]? = some e) : goKeys size slide lt li (E.take (n + 1)) = if behind size slide lt li e || (goKeys size slide lt li (E.take n)).any (fun k => keyEq k e.key) then goKeys size slide lt li (E.take n) else goKeys size slide lt li (E.take n) ++ [e.key] := by
  have hn : n < E.length := (List.getElem?_eq_some_iff.1 h).1
  have he : E[n] = e := (List.getElem?_eq_some_iff.1 h).2
  rw [List.take_succ_eq_append_getElem hn, goKeys_snoc, he]
theorem goKeys_len (size slide lt : Int) (li : Bool) (E : List Ev) : (goKeys size slide lt li E).length ≤ E.length := by
  induction E using snoc_ind with
  | nil => simp [goKeys]
  | snoc E e ih =>
    rw [goKeys_snoc]
    split
    · simp; omega
    · simp; omega
def strV (b : ByteArray) : Value := .string b

structure GoInv (w wr : World) (ks : List ByteArray) (v : Value) : Prop where
  row : Row wr 9 1 v (ks.map strV)
  blk : ∀ k, v.ownBlock = some k → w.heap.size ≤ k
  below : Below w.heap.size w wr

set_option maxRecDepth 20000 in
set_option maxHeartbeats 6400000 in
theorem going_any (g : Nat) (r : RCells) (E : List Ev) (key : ByteArray) (w : World) (h : REv w g r E) (hE : E.length ≤ 100000000) (hev : ∀ e ∈ E, evOk e) (hc1 : 1 ≤ r.slide) (hc2 : r.slide ≤ r.size) (hc3 : r.size ≤ 1099511627776) :
    Calls Tryz.prog 117 #[.pointer (some ⟨g, 0, none⟩), .string key] w fun e w' => e = .returned (.tuple #[.bool (isGoF r.size r.slide r.line r.lined E key), .int .i64 ((goKeys r.size r.slide r.line r.lined E).length : Int)]) ∧ Below w.heap.size w w' := by
  obtain ⟨i, hi, hz0, hz1, hz2⟩ := info_parts infoStr
  have H : Hid (REv w g r E) := h
  have HEv : Hid (∀ e ∈ E, evOk e) := hev
  have hglt := h.rf.lt
  obtain ⟨ea, ec, hvv⟩ := h.shape
  have e0 : w.cell? ⟨g, 44, none⟩ = some r.events := h.rf.tailAt 0 rfl
  have l0 : w.cell? ⟨g, 45, none⟩ = some (.bool r.lined) := h.rf.tailAt 1 rfl
  have t0 : w.cell? ⟨g, 46, none⟩ = some (.int .i64 r.line) := h.rf.tailAt 2 rfl
  have z0 : w.cell? ⟨g, 0, none⟩ = some (.int .i64 r.size) := h.rf.headAt 0 rfl
  have s0 : w.cell? ⟨g, 1, none⟩ = some (.int .i64 r.slide) := h.rf.headAt 1 rfl
  rw [hvv] at e0
  obtain ⟨size, hsize⟩ : ∃ z, r.size = z := ⟨_, rfl⟩
  obtain ⟨slide, hslide⟩ : ∃ z, r.slide = z := ⟨_, rfl⟩
  obtain ⟨line, hline⟩ : ∃ z, r.line = z := ⟨_, rfl⟩
  obtain ⟨lined, hlined⟩ : ∃ z, r.lined = z := ⟨_, rfl⟩
  rw [hsize] at z0 hc2 hc3
  rw [hslide] at s0 hc1 hc2
  rw [hline] at t0
  rw [hlined] at l0
  rw [hsize, hslide, hline, hlined]
  clear h hev
  go_enter Tryz.func117, Tryz.ntmps117
  go_wp2_with fail
  go_loopw [6, 7, 8] (fun v o c wr => ∃ (n : Nat), n ≤ E.length ∧ c = .int .i64 (n : Int) ∧ o = .bool (isGoF size slide line lined (E.take n) key) ∧ GoInv w wr (goKeys size slide line lined (E.take n)) v) (fun _ _ c _ => E.length - (intOf c).toNat)
  case atStart => exact ⟨0, Nat.zero_le _, rfl, rfl, Row.nil _ _ _, fun k hk => by simp [Value.ownBlock] at hk, Below.refl _ _⟩
  case round =>
    obtain ⟨n, hn, rfl, rfl, hI⟩ := hrel
    have HI : Hid (GoInv w wr (goKeys size slide line lined (E.take n)) u6) := hI
    have hB := hI.below
    have e1 : wr.cell? ⟨g, 44, none⟩ = some (.slice ea E.length ec) := by rw [hB.cell (show (⟨g, 44, none⟩ : Addr).block < _ from hglt)]; exact e0
    by_cases hlt : n < E.length
    · have hx : E[n]? = some E[n] := List.getElem?_eq_getElem hlt
      have hgs := goKeys_take size slide line lined E n _ hx
      have his := isGoF_take size slide line lined E key n _ hx
      have hek := HEv.out E[n] (by simp)
      generalize E[n] = e at *
      obtain ⟨ge, eo, ec', hv, hgl, i0, i1, i2, i3, i4⟩ := H.out.item hx
      rw [hvv] at hv
      simp only [Value.slice.injEq] at hv
      obtain ⟨rfl, -, rfl⟩ := hv
      have j0 : wr.cell? ⟨ge, eo + n * 5, none⟩ = some (.int .i64 1) := by rw [hB.cell (show (⟨ge, eo + n * 5, none⟩ : Addr).block < _ from hgl)]; exact i0
      have j1 : wr.cell? ⟨ge, eo + n * 5 + 1, none⟩ = some (.string e.key) := by rw [hB.cell (show (⟨ge, eo + n * 5 + 1, none⟩ : Addr).block < _ from hgl)]; exact i1
      have j2 : wr.cell? ⟨ge, eo + n * 5 + 2, none⟩ = some (.int .i64 e.t) := by rw [hB.cell (show (⟨ge, eo + n * 5 + 2, none⟩ : Addr).block < _ from hgl)]; exact i2
      have j3 : wr.cell? ⟨ge, eo + n * 5 + 3, none⟩ = some (.int .i64 e.v) := by rw [hB.cell (show (⟨ge, eo + n * 5 + 3, none⟩ : Addr).block < _ from hgl)]; exact i3
      have j4 : wr.cell? ⟨ge, eo + n * 5 + 4, none⟩ = some (.int .u32 (e.tag : Int)) := by rw [hB.cell (show (⟨ge, eo + n * 5 + 4, none⟩ : Addr).block < _ from hgl)]; exact i4
      have hnl : (n : Int) < (E.length : Int) := by omega
      have hwn : IntKind.i64.wrap ((n : Int) + 1) = (n : Int) + 1 := by rw [IntKind.wrap_i64]; omega
      have hBs := hB.size
      clear i0 i1 i2 i3 i4 hI
      go_upto_region 7 with fail
      have hb1 : Below w.heap.size w (wr.alloc (.cells #[.int .i64 1, .string e.key, .int .i64 e.t, .int .i64 e.v, .int .u32 (e.tag : Int)] 28)) := hB.alloc hBs _
      have HI1 : Hid (GoInv w (wr.alloc (.cells #[.int .i64 1, .string e.key, .int .i64 e.t, .int .i64 e.v, .int .u32 (e.tag : Int)] 28)) (goKeys size slide line lined (E.take n)) u6) := ⟨HI.out.row.alloc _, HI.out.blk, hb1⟩
      have hi1 := heap_alloc_new wr (.cells #[.int .i64 1, .string e.key, .int .i64 e.t, .int .i64 e.v, .int .u32 (e.tag : Int)] 28)
      obtain ⟨C, HC⟩ : ∃ C, Hid (wr.heap.size = C) := ⟨_, rfl⟩
      rw [HC.out] at hi1 hBs ⊢
      generalize wr.alloc (.cells #[.int .i64 1, .string e.key, .int .i64 e.t, .int .i64 e.v, .int .u32 (e.tag : Int)] 28) = W1 at *
      have HIT : Hid (W1.heap[C]? = some (.cells #[.int .i64 1, .string e.key, .int .i64 e.t, .int .i64 e.v, .int .u32 (e.tag : Int)] 28 (0, 0))) := hi1
      obtain ⟨d0, d1, d2, d3, d4⟩ := itemAt hi1
      have z1 : W1.cell? ⟨g, 0, none⟩ = some (.int .i64 size) := by rw [hb1.cell (show (⟨g, 0, none⟩ : Addr).block < _ from hglt)]; exact z0
      have s1 : W1.cell? ⟨g, 1, none⟩ = some (.int .i64 slide) := by rw [hb1.cell (show (⟨g, 1, none⟩ : Addr).block < _ from hglt)]; exact s0
      have HB1 : Hid (Below w.heap.size w W1) := hb1
      clear hi1 j0 j1 j2 j3 j4 e1 HC hb1 hB HI
      have HGs : Hid (goKeys size slide line lined (E.take (n + 1)) = if behind size slide line lined e || (goKeys size slide line lined (E.take n)).any (fun k => keyEq k e.key) then goKeys size slide line lined (E.take n) else goKeys size slide line lined (E.take n) ++ [e.key]) := hgs
      have HIs : Hid (isGoF size slide line lined (E.take (n + 1)) key = (isGoF size slide line lined (E.take n) key || (!behind size slide line lined e && keyEq e.key key))) := his
      clear hgs his hx
      obtain ⟨-, ht1, ht2⟩ := hek
      have hfl := fun W => floor_any e.t slide W hc1 (by omega) ht1 ht2
      have hdl := down_le e.t slide hc1
      have hww : IntKind.i64.wrap (down e.t slide + size) = down e.t slide + size := by rw [IntKind.wrap_i64]; omega
      have HBe : Hid (behind size slide line lined e = (lined && decide (down e.t slide + size ≤ line))) := rfl
      generalize down e.t slide = dn at *
      go_quiet ((go_at_call 115; exact Calls.quiet_of_same (hfl _)))
      have HI2 : Hid (GoInv w (W1.drewN nq) (goKeys size slide line lined (E.take n)) u6) := ⟨HI1.out.row.congr (fun k _ => by simp), HI1.out.blk, below_drewN HI1.out.below _⟩
      have HIT2 : Hid ((W1.drewN nq).heap[C]? = some (.cells #[.int .i64 1, .string e.key, .int .i64 e.t, .int .i64 e.v, .int .u32 (e.tag : Int)] 28 (0, 0))) := by show _ = _; simpa using HIT.out
      have l2 : (W1.drewN nq).cell? ⟨g, 45, none⟩ = some (.bool lined) := by rw [HI2.out.below.cell (show (⟨g, 45, none⟩ : Addr).block < _ from hglt)]; exact l0
      have t2 : (W1.drewN nq).cell? ⟨g, 46, none⟩ = some (.int .i64 line) := by rw [HI2.out.below.cell (show (⟨g, 46, none⟩ : Addr).block < _ from hglt)]; exact t0
      clear d0 d1 d2 d3 d4 z1 s1 HIT HI1 HB1
      generalize W1.drewN nq = W2 at *
      obtain ⟨d0, d1, d2, d3, d4⟩ := itemAt HIT2.out
      obtain ⟨ks, HKs⟩ : ∃ ks, Hid (goKeys size slide line lined (E.take n) = ks) := ⟨_, rfl⟩
      rw [HKs.out] at HI2 HGs
      generalize isGoF size slide line lined (E.take n) key = is at *
      go_upto_region 8 with fail
      go_cut [54] from 43 to 54 (fun s54 wx => s54 = .bool (behind size slide line lined e) ∧ W2 = wx)
      case first =>
        cases lined with
        | false =>
          go_wp2_with fail
          go_meet
          exact ⟨by rw [HBe.out]; rfl, rfl⟩
        | true =>
          by_cases hle : dn + size ≤ line
          · go_wp2_with fail
            go_meet
            exact ⟨by rw [HBe.out, decide_eq_true hle]; rfl, rfl⟩
          · go_wp2_with fail
            go_meet
            exact ⟨by rw [HBe.out, decide_eq_false (by omega)]; rfl, rfl⟩
      case rest =>
        obtain ⟨rfl, rfl⟩ := hcut
        clear l2 t2
        cases hbe : behind size slide line lined e with
        | true =>
          have HIs2 : Hid (isGoF size slide line lined (E.take (n + 1)) key = is) := by show _ = _; rw [HIs.out, hbe]; simp
          have HGs2 : Hid (goKeys size slide line lined (E.take (n + 1)) = ks) := by show _ = _; rw [HGs.out, hbe]; simp
          go_wp2_with fail
          go_roundw
          case rel => exact ⟨n + 1, by omega, by go_num, by rw [HIs2.out], by rw [HGs2.out]; exact HI2.out⟩
          case measure => simp [intOf]; omega
        | false =>
          have HIs2 : Hid (isGoF size slide line lined (E.take (n + 1)) key = (is || keyEq e.key key)) := by show _ = _; rw [HIs.out, hbe]; simp
          have HGs2 : Hid (goKeys size slide line lined (E.take (n + 1)) = if ks.any (fun k => keyEq k e.key) then ks else ks ++ [e.key]) := by show _ = _; rw [HGs.out, hbe]; simp
          clear HIs HGs HBe hbe
          go_upto_region 9 with fail
          go_cut [7] from 55 to 61 (fun s7 wx => s7 = .bool (is || keyEq e.key key) ∧ W2 = wx)
          case first =>
            cases is with
            | true =>
              go_wp2_with fail
              go_meet
              exact ⟨rfl, rfl⟩
            | false =>
              cases hkb : keyEq e.key key with
              | true =>
                have HK : Hid (keyEq e.key key = true) := hkb
                unfold keyEq at hkb
                go_wp2_with fail
                go_meet
                exact ⟨by rw [HK.out]; rfl, rfl⟩
              | false =>
                have HK : Hid (keyEq e.key key = false) := hkb
                unfold keyEq at hkb
                go_wp2_with fail
                go_meet
                exact ⟨by rw [HK.out]; rfl, rfl⟩
          case rest =>
            obtain ⟨rfl, rfl⟩ := hcut
            obtain ⟨va, vc, hv6, -⟩ := HI2.out.row.slice
            rw [List.length_map] at hv6
            have hkl : ks.length ≤ n := by
              have := goKeys_len size slide line lined (E.take n)
              rw [HKs.out, List.length_take] at this; omega
            have HRow : Hid (Row W2 9 1 u6 (ks.map strV)) := HI2.out.row
            subst hv6
            go_wp2_with fail
            go_loopw [11, 12] (fun o c wx => ∃ (k m : Nat), k ≤ ks.length ∧ c = .int .i64 (k : Int) ∧ o = .bool ((ks.take k).any (fun x => keyEq x e.key)) ∧ wx = W2.drewN m) (fun _ c _ => ks.length - (intOf c).toNat)
            case atStart => exact ⟨0, 0, Nat.zero_le _, rfl, rfl, rfl⟩
            case round =>
              obtain ⟨k, m, hk, rfl, rfl, rfl⟩ := hrel
              by_cases hkl2 : k < ks.length
              · have hy : ks[k]? = some ks[k] := List.getElem?_eq_getElem hkl2
                have hany : (ks.take (k + 1)).any (fun x => keyEq x e.key) = ((ks.take k).any (fun x => keyEq x e.key) || keyEq ks[k] e.key) := by
                  rw [List.take_succ_eq_append_getElem hkl2, List.any_append]; simp
                generalize ks[k] = y at *
                obtain ⟨gv, ov, nv, cv, hv, hnv, -⟩ := HRow.out.shape (by intro e'; have := congrArg List.length e'; simp at this; rw [this] at hkl2; simp at hkl2)
                simp only [Value.slice.injEq] at hv
                obtain ⟨rfl, rfl, rfl⟩ := hv
                have y0 : W2.cell? ⟨gv, ov + k, none⟩ = some (.string y) := by
                  have := HRow.out.cell k (by omega)
                  rw [List.getElem?_map, hy] at this; simpa [strV] using this
                have hkk : (k : Int) < (ks.length : Int) := by omega
                have hwk : IntKind.i64.wrap ((k : Int) + 1) = (k : Int) + 1 := by rw [IntKind.wrap_i64]; omega
                have HAny : Hid ((ks.take (k + 1)).any (fun x => keyEq x e.key) = ((ks.take k).any (fun x => keyEq x e.key) || keyEq y e.key)) := hany
                clear hany hy d0 d2 d3 d4
                generalize (ks.take k).any (fun x => keyEq x e.key) = old at *
                cases old with
                | true =>
                  go_upto_region 14 with fail
                  go_quiet (fail)
                  go_wp2
                  go_roundw
                  case rel => exact ⟨k + 1, m + nq, by omega, by go_num, by rw [HAny.out]; rfl, by first | rfl | rw [World.drewN_drewN]⟩
                  case measure => simp [intOf]; omega
                | false =>
                  cases hkb : keyEq y e.key with
                  | true =>
                    have HK : Hid (keyEq y e.key = true) := hkb
                    unfold keyEq at hkb
                    go_upto_region 14 with fail
                    go_quiet (fail)
                    go_wp2
                    go_roundw
                    case rel => exact ⟨k + 1, m + nq, by omega, by go_num, by rw [HAny.out, HK.out]; rfl, by first | rfl | rw [World.drewN_drewN]⟩
                    case measure => simp [intOf]; omega
                  | false =>
                    have HK : Hid (keyEq y e.key = false) := hkb
                    unfold keyEq at hkb
                    go_upto_region 14 with fail
                    go_quiet (fail)
                    go_wp2
                    go_roundw
                    case rel => exact ⟨k + 1, m + nq, by omega, by go_num, by rw [HAny.out, HK.out]; rfl, by first | rfl | rw [World.drewN_drewN]⟩
                    case measure => simp [intOf]; omega
              · have hkE : k = ks.length := by omega
                subst hkE
                have HR3 : Hid (Row (W2.drewN m) 9 1 (.slice va ks.length vc) (ks.map strV)) := HRow.out.congr (fun k _ => by simp)
                have HB3 : Hid (Below w.heap.size w (W2.drewN m)) := below_drewN HI2.out.below m
                have d1' : (W2.drewN m).cell? ⟨C, 1, none⟩ = some (.string e.key) := by simpa using d1
                have HBk : Hid (∀ k, (Value.slice va ks.length vc).ownBlock = some k → w.heap.size ≤ k) := HI2.out.blk
                have hB3s := HB3.out.size
                clear d0 d1 d2 d3 d4
                generalize W2.drewN m = W3 at *
                have htk : ks.take ks.length = ks := List.take_length
                rw [htk]
                cases hold : ks.any (fun x => keyEq x e.key) with
                | true =>
                  have HGs3 : Hid (goKeys size slide line lined (E.take (n + 1)) = ks) := by show _ = _; rw [HGs2.out, hold]; rfl
                  clear hold htk
                  go_wp2_with fail
                  go_roundw
                  case rel => exact ⟨n + 1, by omega, by go_num, by rw [HIs2.out], by rw [HGs3.out]; exact ⟨HR3.out, HBk.out, HB3.out⟩⟩
                  case measure => simp [intOf]; omega
                | false =>
                  have HGs3 : Hid (goKeys size slide line lined (E.take (n + 1)) = ks ++ [e.key]) := by show _ = _; rw [HGs2.out, hold]; rfl
                  clear hold htk
                  go_wp2_with (at_builtin; go_must (refine wpList_append _ rfl _ _ _ _ rfl 9 i (.string ⟨#[]⟩) 1 16 Tryz.underlying233 hi hz0 hz1 hz2 rfl Nat.one_pos (.slice va ks.length vc) (ks.map strV) rfl (HR3.out.alloc _) (.slice (some ⟨W3.heap.size, 0, none⟩) 1 1) 1 [.string e.key] rfl (str_src W3 e.key) Nat.one_pos ?h63 ?hby ?next))
                  case h63 => simp only [maxLen, List.length_map]; omega
                  case hby => simp only [List.length_map]; omega
                  intro v4 W4 ha
                  have HI4 : Hid (GoInv w W4 (ks ++ [e.key]) v4) := ⟨by have := ha.row; rw [List.map_append]; exact this, ha.blk HBk.out (by simp; omega), HB3.out.trans (((Below.refl _ W3).alloc (by omega) _).trans (ha.below HBk.out (by simp; omega)))⟩
                  clear ha
                  go_wp2_with fail
                  go_roundw
                  case rel => exact ⟨n + 1, by omega, by go_num, by rw [HIs2.out], by rw [HGs3.out]; exact HI4.out⟩
                  case measure => simp [intOf]; omega
    · have hnE : n = E.length := by omega
      subst hnE
      have hI2 := HI.out
      rw [List.take_length] at *
      have HF : Hid (GoInv w wr (goKeys size slide line lined E) u6) := hI2
      obtain ⟨va, vc, hv6, -⟩ := hI2.row.slice
      rw [List.length_map] at hv6
      clear hI hI2 HI
      subst hv6
      go_wp2_with fail
      go_ret2
      exact ⟨rfl, HF.out.below⟩
end Go.Proofs.YtcfngdnmpogaoaaGreat

/-
  The reference's 'item': an event out of range.
-/
namespace Go.Proofs.YtcfngdnmpogaoaaGreat
open Go.RowKit

def RCells.addRange (r : RCells) : RCells := { r with n := { r.n with range := wrap64 (r.n.range + 1) } }

set_option maxRecDepth 20000 in
set_option maxHeartbeats 3200000 in
theorem ritem_out (g n : Nat) (r : RCells) (E : List Ev) (e : Ev) (w : World) (h : REv w g r E) (hE : E.length ≤ 200000) (hev : ∀ x ∈ E, evOk x) (hc1 : 1 ≤ r.slide) (hc2 : r.slide ≤ r.size) (hc3 : r.size ≤ 1099511627776) (ho : outB e = true) :
    Calls Tryz.prog 81 #[.pointer (some ⟨g, 0, none⟩), .int .i64 n, evItem e] w fun en w' => en = .returned (.tuple #[]) ∧ REv w' g r.addRange E ∧ Kept (fun k => k = g) w w' := by
  unfold evItem itemV
  have H : Hid (REv w g r E) := h
  have hglt := h.rf.lt
  have hb0 : Below w.heap.size w (w.alloc (.cells #[.int .i64 1, .string e.key, .int .i64 e.t, .int .i64 e.v, .int .u32 (e.tag : Int)] 28)) := (Below.refl _ w).alloc (Nat.le_refl _) _
  have hg := going_any g r E e.key _ (h.below hb0) (by omega) hev hc1 hc2 hc3
  have hbx := heap_alloc_new w (.cells #[.int .i64 1, .string e.key, .int .i64 e.t, .int .i64 e.v, .int .u32 (e.tag : Int)] 28)
  have hsz : w.heap.size < (w.alloc (.cells #[.int .i64 1, .string e.key, .int .i64 e.t, .int .i64 e.v, .int .u32 (e.tag : Int)] 28)).heap.size := by simp
  clear h hev
  go_enter Tryz.func81, Tryz.ntmps81
  go_wp2_with fail
  refine hg.mono ?_
  rintro en W1 ⟨rfl, hB1⟩
  have hb1 : Below w.heap.size w W1 := hb0.trans (hB1.mono (by omega))
  have hbx1 : W1.heap[w.heap.size]? = some (.cells #[.int .i64 1, .string e.key, .int .i64 e.t, .int .i64 e.v, .int .u32 (e.tag : Int)] 28 (0, 0)) := (hB1.block _ hsz).trans hbx
  have hrv := H.out.below hb1
  have c50 : W1.cell? ⟨g, 50, none⟩ = some (.int .i64 r.n.range) := hrv.rf.tailAt 6 rfl
  have fz : ∀ j, W1.frozen? ⟨g, j, none⟩ = false := hrv.rf.frozen
  obtain ⟨d0, d1, d2, d3, d4⟩ := itemAt hbx1
  have hgE : r.events.ownBlock ≠ some g := fun x => (H.out.ev.cb x).ne (Cb.of H.out.rf.blk) (by decide) rfl
  have HFin : Hid (REv (W1.setCell ⟨g, 50, none⟩ (.int .i64 (wrap64 (r.n.range + 1)))) g r.addRange E ∧ Kept (fun k => k = g) w (W1.setCell ⟨g, 50, none⟩ (.int .i64 (wrap64 (r.n.range + 1))))) :=
    ⟨⟨hrv.rf.putTail 6 _ rfl rfl rfl, hrv.ev.setCell _ _ (fun hh => hgE hh)⟩, (Kept.ofBelow hb1 (fun k => k = g)).setCell ⟨g, 50, none⟩ _ (fun _ => rfl)⟩
  generalize w.heap.size = B at *
  clear hb0 hbx hsz hg hB1 hb1 hbx1 hrv hgE
  unfold outB at ho
  generalize isGoF r.size r.slide r.line r.lined E e.key = is at *
  generalize ((goKeys r.size r.slide r.line r.lined E).length : Int) = many at *
  by_cases hlo : e.t < -2305843009213693952
  · clear ho
    go_wp2_with fail
    refine bodyPost_ret (results_none rfl _ _ _) rfl ?_
    exact ⟨rfl, HFin.out⟩
  · have hhi : 2305843009213693952 < e.t := by simp [hlo] at ho; exact ho
    clear ho
    go_wp2_with fail
    refine bodyPost_ret (results_none rfl _ _ _) rfl ?_
    exact ⟨rfl, HFin.out⟩
def RCells.addFull (r : RCells) : RCells := { r with n := { r.n with full := wrap64 (r.n.full + 1) } }

set_option maxRecDepth 20000 in
set_option maxHeartbeats 3200000 in
theorem ritem_full (g n : Nat) (r : RCells) (E : List Ev) (e : Ev) (w : World) (h : REv w g r E) (hE : E.length ≤ 200000) (hev : ∀ x ∈ E, evOk x) (hc1 : 1 ≤ r.slide) (hc2 : r.slide ≤ r.size) (hc3 : r.size ≤ 1099511627776) (ho : outB e = false) (hl : (r.lined && decide (e.t < r.line)) = false) (hi : isGoF r.size r.slide r.line r.lined E e.key = false) (hm : r.keys ≤ ((goKeys r.size r.slide r.line r.lined E).length : Int)) :
    Calls Tryz.prog 81 #[.pointer (some ⟨g, 0, none⟩), .int .i64 n, evItem e] w fun en w' => en = .returned (.tuple #[]) ∧ REv w' g r.addFull E ∧ Kept (fun k => k = g) w w' := by
  unfold evItem itemV
  have H : Hid (REv w g r E) := h
  have hglt := h.rf.lt
  have hb0 : Below w.heap.size w (w.alloc (.cells #[.int .i64 1, .string e.key, .int .i64 e.t, .int .i64 e.v, .int .u32 (e.tag : Int)] 28)) := (Below.refl _ w).alloc (Nat.le_refl _) _
  have hg := going_any g r E e.key _ (h.below hb0) (by omega) hev hc1 hc2 hc3
  have hbx := heap_alloc_new w (.cells #[.int .i64 1, .string e.key, .int .i64 e.t, .int .i64 e.v, .int .u32 (e.tag : Int)] 28)
  have hsz : w.heap.size < (w.alloc (.cells #[.int .i64 1, .string e.key, .int .i64 e.t, .int .i64 e.v, .int .u32 (e.tag : Int)] 28)).heap.size := by simp
  clear h hev
  go_enter Tryz.func81, Tryz.ntmps81
  go_wp2_with fail
  refine hg.mono ?_
  rintro en W1 ⟨rfl, hB1⟩
  have hb1 : Below w.heap.size w W1 := hb0.trans (hB1.mono (by omega))
  have hbx1 : W1.heap[w.heap.size]? = some (.cells #[.int .i64 1, .string e.key, .int .i64 e.t, .int .i64 e.v, .int .u32 (e.tag : Int)] 28 (0, 0)) := (hB1.block _ hsz).trans hbx
  have hrv := H.out.below hb1
  have c51 : W1.cell? ⟨g, 51, none⟩ = some (.int .i64 r.n.full) := hrv.rf.tailAt 7 rfl
  have c45 : W1.cell? ⟨g, 45, none⟩ = some (.bool r.lined) := hrv.rf.tailAt 1 rfl
  have c46 : W1.cell? ⟨g, 46, none⟩ = some (.int .i64 r.line) := hrv.rf.tailAt 2 rfl
  have HRv : Hid (REv W1 g r E) := hrv
  have HB1 : Hid (Below w.heap.size w W1) := hb1
  have fz : ∀ j, W1.frozen? ⟨g, j, none⟩ = false := hrv.rf.frozen
  obtain ⟨d0, d1, d2, d3, d4⟩ := itemAt hbx1
  have hgE : r.events.ownBlock ≠ some g := fun x => (H.out.ev.cb x).ne (Cb.of H.out.rf.blk) (by decide) rfl
  have HFin : Hid (∀ W, REv W g r E → Kept (fun k => k = g) w W → REv (W.setCell ⟨g, 51, none⟩ (.int .i64 (wrap64 (r.n.full + 1)))) g r.addFull E ∧ Kept (fun k => k = g) w (W.setCell ⟨g, 51, none⟩ (.int .i64 (wrap64 (r.n.full + 1))))) := fun W hW kW =>
    ⟨⟨hW.rf.putTail 7 _ rfl rfl rfl, hW.ev.setCell _ _ (fun hh => hgE hh)⟩, kW.setCell ⟨g, 51, none⟩ _ (fun _ => rfl)⟩
  have HK1 : Hid (Kept (fun k => k = g) w W1) := Kept.ofBelow hb1 _
  clear HB1
  generalize w.heap.size = B at *
  clear hb0 hbx hsz hg hB1 hb1 hbx1 hrv hgE
  unfold outB at ho
  simp only [Bool.or_eq_false_iff, decide_eq_false_iff_not] at ho
  obtain ⟨hlo, hhi⟩ := ho
  rw [hi]
  clear hi
  generalize ((goKeys r.size r.slide r.line r.lined E).length : Int) = many at *
  go_upto_region 12 with fail
  go_cut [74] from 75 to 87 (fun s74 wx => s74 = .bool false ∧ REv wx g r E ∧ Kept (fun k => k = g) w wx)
  case first =>
    have hR : Hid (∀ m, REv (W1.drewN m) g r E) := fun m => HRv.out.below (below_drewN (Below.refl _ W1) m)
    obtain ⟨ln, hln⟩ : ∃ z, r.lined = z := ⟨_, rfl⟩
    rw [hln] at c45 hl
    clear hln
    cases ln with
    | false =>
      clear hl
      go_quiet (fail)
      go_wp2
      go_meet
      exact ⟨rfl, hR.out _, HK1.out.drewN _⟩
    | true =>
      have hnl : ¬ e.t < r.line := by simpa using hl
      clear hl
      go_quiet (fail)
      go_wp2
      go_meet
      exact ⟨rfl, hR.out _, HK1.out.drewN _⟩
  case rest =>
    obtain ⟨rfl, hR, hK⟩ := hcut
    have k3 : wc.cell? ⟨g, 3, none⟩ = some (.int .i64 r.keys) := hR.rf.headAt 3 rfl
    have c51' : wc.cell? ⟨g, 51, none⟩ = some (.int .i64 r.n.full) := hR.rf.tailAt 7 rfl
    have fz' : ∀ j, wc.frozen? ⟨g, j, none⟩ = false := hR.rf.frozen
    have HF2 := HFin.out wc hR hK
    have HF3 : Hid (REv (wc.setCell ⟨g, 51, none⟩ (.int .i64 (wrap64 (r.n.full + 1)))) g r.addFull E ∧ Kept (fun k => k = g) w (wc.setCell ⟨g, 51, none⟩ (.int .i64 (wrap64 (r.n.full + 1))))) := HF2
    clear HF2 hR hK c45 c46 c51 d0 d1 d2 d3 d4 fz
    go_wp2_with fail
    refine bodyPost_ret (results_none rfl _ _ _) rfl ?_
    exact ⟨rfl, HF3.out⟩
end Go.Proofs.YtcfngdnmpogaoaaGreat
