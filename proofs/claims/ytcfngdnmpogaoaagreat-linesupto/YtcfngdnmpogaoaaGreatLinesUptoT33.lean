import Derived.Test.YtcfngdnmpogaoaaGreatLinesUptoT32
import Derived.Test.YtcfngdnmpogaoaaGreatLinesUptoT15

/-
  Open, Close, Feed, New: the code and the reference, side by side.
-/
namespace Go.Proofs.YtcfngdnmpogaoaaGreat
open Go.RowKit Go.MuLone

theorem FlowOn.up {w w' : World} {g : Nat} {c : Cf} {sp : Sp} {rs : List (List UInt8)} {F : Nat → Prop} {T : Option Int} (h : FlowOn w' g c sp rs F T) : FlowOn w' g c sp rs (Grown F w) T := h.mono (fun _ hk => .inl hk)
theorem RefOn.evNe {w : World} {g : Nat} {r : RCells} {E : List Ev} {ds : List WinX} {G : Nat → Prop} (h : RefOn w g r E ds G) : ∀ k, r.events.ownBlock = some k → ¬ k = g := fun k hk e => by
  subst e; exact (h.rev.ev.cb hk).ne (Cb.of h.rev.rf.blk) (by decide) rfl
/-- The flow's own cells turned. -/
theorem RefOn.cells {w W : World} {g : Nat} {r r' : RCells} {E : List Ev} {ds : List WinX} {G : Nat → Prop} (h : RefOn w g r E ds G) (hr : RF W g r') (hd : r'.done = r.done) (he : r'.events = r.events) (hk : Kept (fun k => k = g) w W) : REv W g r' E ∧ RefOn W g r' E ds (Grown G w) ∧ Kept G w W := by
  have h1 : REv W g r' E := ⟨hr, by rw [he]; exact h.rev.ev.kept hk h.evNe⟩
  exact ⟨h1, h.turn h1 hd (hk.mono (fun k _ e => .inl e)) (fun k hk => .inl (by rw [← he]; exact hk))⟩

theorem src_cases (_c : Cf) (sp : Sp) (n : Int) (h8 : sp.src.length = 8) : ¬ (0 ≤ n ∧ n < 8) ∨ ∃ (m : Nat) (s : SrcS), n = (m : Int) ∧ sp.src[m]? = some s := by
  by_cases hn : 0 ≤ n ∧ n < 8
  · exact .inr ⟨n.toNat, sp.src[n.toNat]'(by omega), by omega, List.getElem?_eq_getElem _⟩
  · exact .inl hn

theorem least_open {l : List SrcS} {n : Nat} : leastS (l.modify n fun x => ⟨true, x.broken, x.time, x.is⟩) = leastS l := by
  unfold leastS
  suffices h : ∀ m, (l.modify n fun x => ⟨true, x.broken, x.time, x.is⟩).foldl leastStepS m = l.foldl leastStepS m from h _
  induction l generalizing n with
  | nil => intro m; simp
  | cons a l ih =>
    intro m
    cases n with
    | zero => rfl
    | succ n => simp only [List.modify_succ_cons, List.foldl_cons]; exact ih _

theorem RefRel.opened {c : Cf} {sp : Sp} {rs : List (List UInt8)} {r : RCells} {d : Nat} (h : RefRel c sp rs r d) (n : Nat) (s : SrcS) (hs : sp.src[n]? = some s) (ho : s.opened = false) : RefRel c (sp.open n) rs (r.setSrc n ⟨true, false, false, 0, ⟨#[]⟩⟩) d := by
  obtain ⟨s1, s2, s3⟩ := h.shut n s hs ho
  obtain ⟨t, ht, -⟩ := h.src.at hs
  have hlt : n < r.src.length := (List.getElem?_eq_some_iff.1 ht).1
  refine ⟨h.size, h.slide, h.late, h.keys, h.line, h.lined, h.n, ⟨?_, fun i a b ha hb => ?_⟩, h.rl, fun i t' l ht' hl hb' => ?_, h.done, h.ok, fun i s' hs' ho' => ?_⟩
  · show (sp.src.modify n _).length = (r.src.set n _).length
    rw [List.length_modify, List.length_set]; exact h.src.1
  · have ha2 : (sp.src.modify n fun x => ⟨true, x.broken, x.time, x.is⟩)[i]? = some a := ha
    have hb2 : (r.src.set n ⟨true, false, false, 0, ⟨#[]⟩⟩)[i]? = some b := hb
    rw [List.getElem?_set] at hb2
    by_cases hi : n = i
    · subst hi
      rw [if_pos rfl, if_pos hlt] at hb2
      rw [modify_at _ hs] at ha2
      simp only [Option.some.injEq] at ha2 hb2
      subst ha2; subst hb2
      exact ⟨rfl, s1.symm, fun _ => s2, fun _ _ => ⟨s2.symm, fun hh => by simp only [s2] at hh; cases hh⟩⟩
    · rw [modify_ne _ hi] at ha2
      rw [if_neg hi] at hb2
      exact h.src.2 i a b ha2 hb2
  · have ht2 : (r.src.set n ⟨true, false, false, 0, ⟨#[]⟩⟩)[i]? = some t' := ht'
    rw [List.getElem?_set] at ht2
    by_cases hi : n = i
    · subst hi
      rw [if_pos rfl, if_pos hlt] at ht2
      simp only [Option.some.injEq] at ht2
      subst ht2
      rw [s3] at hl
      simp only [Option.some.injEq] at hl
      rw [← hl]
    · rw [if_neg hi] at ht2
      exact h.rest i t' l ht2 hl hb'
  · have hs2 : (sp.src.modify n fun x => ⟨true, x.broken, x.time, x.is⟩)[i]? = some s' := hs'
    by_cases hi : n = i
    · subst hi
      rw [modify_at _ hs] at hs2
      simp only [Option.some.injEq] at hs2
      rw [← hs2] at ho'
      cases ho'
    · rw [modify_ne _ hi] at hs2
      exact h.shut i s' hs2 ho'

theorem open_two (f r : Nat) (c : Cf) (sp : Sp) (rs : List (List UInt8)) (n : Int) (h8 : sp.src.length = 8) : ∃ (x : Int) (sp' : Sp), sp'.E = sp.E ∧
    (∀ (w : World) (F : Nat → Prop), FlowOn w f c sp rs F none → Calls Tryz.prog 22 #[.pointer (some ⟨f, 0, none⟩), .int .i64 n] w fun e w' => e = .returned (.int .i64 x) ∧ FlowOn w' f c sp' rs (Grown F w) none ∧ Kept F w w') ∧
    ∀ (w : World) (G : Nat → Prop), Ref w r c sp rs G → Calls Tryz.prog 55 #[.pointer (some ⟨r, 0, none⟩), .int .i64 n] w fun e w' => e = .returned (.int .i64 x) ∧ Ref w' r c sp' rs (Grown G w) ∧ Kept G w w' := by
  rcases src_cases c sp n h8 with hn | ⟨m, s, rfl, hs⟩
  · refine ⟨3, sp, rfl, fun w F h => (open_out_on f n c sp rs F none w h hn).mono (fun e w' ⟨h1, h2, h3⟩ => ⟨h1, h2.up, h3⟩), fun w G h => (ropen_out r n w hn).mono ?_⟩
    rintro e w' ⟨rfl, rfl⟩
    exact ⟨rfl, h.mono (fun k hk => .inl hk), Kept.refl _ _⟩
  · cases ho : s.opened with
    | true =>
      refine ⟨4, sp, rfl, fun w F h => (open_no_on f m c sp rs F none s w h hs ho).mono (fun e w' ⟨h1, h2, h3⟩ => ⟨h1, h2.up, h3⟩), fun w G h => ?_⟩
      obtain ⟨rr, ds, h1, h2, h3⟩ := id h
      obtain ⟨t, ht, hst⟩ := h2.src.at hs
      refine (ropen_no r m rr t w h1.rev.rf ht (hst.op.trans ho)).mono ?_
      rintro e w' ⟨rfl, rfl⟩
      exact ⟨rfl, h.mono (fun k hk => .inl hk), Kept.refl _ _⟩
    | false =>
      refine ⟨0, sp.open m, rfl, fun w F h => (open_on f m c sp rs F none s w h hs ho).mono (fun e w' ⟨h1, h2, h3⟩ => ⟨h1, h2.up, h3⟩), fun w G h => ?_⟩
      obtain ⟨rr, ds, h1, h2, h3⟩ := h
      obtain ⟨t, ht, hst⟩ := h2.src.at hs
      refine (ropen_yes r m rr t w h1.rev.rf ht (hst.op.trans ho)).mono ?_
      rintro e w' ⟨rfl, a1, a2⟩
      obtain ⟨-, b2, b3⟩ := h1.cells a1 rfl rfl a2
      refine ⟨rfl, ⟨_, ds, b2, h2.opened m s hs ho, ?_⟩, b3⟩
      have e1 := congrArg Sp.lt h3
      have e2 := congrArg Sp.li h3
      unfold Sp.line lineF at *
      unfold Sp.open
      simp only [least_open] at *
      rw [e1, e2]

theorem RefRel.closed {c : Cf} {sp : Sp} {rs : List (List UInt8)} {r : RCells} {d : Nat} (h : RefRel c sp rs r d) (n : Nat) (s : SrcS) (hs : sp.src[n]? = some s) (h8 : sp.src.length = 8) : RefRel c (sp.close0 n) (rs.set n []) (r.setSrc n RSrc.zero) d := by
  obtain ⟨t, ht, -⟩ := h.src.at hs
  have hlt : n < r.src.length := (List.getElem?_eq_some_iff.1 ht).1
  refine ⟨h.size, h.slide, h.late, h.keys, h.line, h.lined, h.n, ⟨?_, fun i a b ha hb => ?_⟩, by rw [List.length_set]; exact h.rl, fun i t' l ht' hl hb' => ?_, h.done, h.ok, fun i s' hs' ho' => ?_⟩
  · show (sp.src.modify n _).length = (r.src.set n _).length
    rw [List.length_modify, List.length_set]; exact h.src.1
  · have ha2 : (sp.src.modify n fun _ => ⟨false, false, 0, false⟩)[i]? = some a := ha
    have hb2 : (r.src.set n RSrc.zero)[i]? = some b := hb
    rw [List.getElem?_set] at hb2
    by_cases hi : n = i
    · subst hi
      rw [if_pos rfl, if_pos hlt] at hb2
      rw [modify_at _ hs] at ha2
      simp only [Option.some.injEq] at ha2 hb2
      subst ha2; subst hb2
      exact ⟨rfl, rfl, fun _ => rfl, fun hh => by cases hh⟩
    · rw [modify_ne _ hi] at ha2
      rw [if_neg hi] at hb2
      exact h.src.2 i a b ha2 hb2
  · have ht2 : (r.src.set n RSrc.zero)[i]? = some t' := ht'
    rw [List.getElem?_set] at ht2 hl
    by_cases hi : n = i
    · subst hi
      rw [if_pos rfl, if_pos hlt] at ht2
      rw [if_pos rfl] at hl
      simp only [Option.some.injEq] at ht2
      subst ht2
      split at hl
      · simp only [Option.some.injEq] at hl
        rw [← hl]; rfl
      · cases hl
    · rw [if_neg hi] at ht2 hl
      exact h.rest i t' l ht2 hl hb'
  · have hs2 : (sp.src.modify n fun _ => ⟨false, false, 0, false⟩)[i]? = some s' := hs'
    rw [List.getElem?_set]
    by_cases hi : n = i
    · subst hi
      rw [modify_at _ hs] at hs2
      simp only [Option.some.injEq] at hs2
      have hn : n < rs.length := by rw [h.rl, ← h8]; exact (List.getElem?_eq_some_iff.1 hs).1
      rw [if_pos rfl, if_pos hn, ← hs2]
      exact ⟨rfl, rfl, rfl⟩
    · rw [modify_ne _ hi] at hs2
      rw [if_neg hi]
      exact h.shut i s' hs2 ho'

theorem close_two (f r : Nat) (c : Cf) (sp : Sp) (rs : List (List UInt8)) (n : Int) (h8 : sp.src.length = 8) (hc : CfOk c) (hE : sp.E.length ≤ 200000) (hrl : rs.length = 8) : ∃ (x : Int) (sp' : Sp) (rs' : List (List UInt8)), sp'.E = sp.E ∧ (rs'.map List.length).sum ≤ (rs.map List.length).sum ∧
    (∀ (w : World) (F : Nat → Prop), FlowOn w f c sp rs F none → Calls Tryz.prog 49 #[.pointer (some ⟨f, 0, none⟩), .int .i64 n] w fun e w' => e = .returned (.int .i64 x) ∧ FlowOn w' f c sp' rs' (Grown F w) none ∧ Kept F w w') ∧
    ∀ (w : World) (G : Nat → Prop), Ref w r c sp rs G → Calls Tryz.prog 60 #[.pointer (some ⟨r, 0, none⟩), .int .i64 n] w fun e w' => e = .returned (.int .i64 x) ∧ Ref w' r c sp' rs' (Grown G w) ∧ Kept G w w' := by
  rcases src_cases c sp n h8 with hn | ⟨m, s, rfl, hs⟩
  · refine ⟨3, sp, rs, rfl, Nat.le_refl _, fun w F h => (close_out_on f n c sp rs F none w h hn).mono (fun e w' ⟨h1, h2, h3⟩ => ⟨h1, h2.up, h3⟩), fun w G h => (rclose_out r n w hn).mono ?_⟩
    rintro e w' ⟨rfl, rfl⟩
    exact ⟨rfl, h.mono (fun k hk => .inl hk), Kept.refl _ _⟩
  · cases ho : s.opened with
    | false =>
      refine ⟨4, sp, rs, rfl, Nat.le_refl _, fun w F h => (close_no_on f m c sp rs F none s w h hs ho).mono (fun e w' ⟨h1, h2, h3⟩ => ⟨h1, h2.up, h3⟩), fun w G h => ?_⟩
      obtain ⟨rr, ds, h1, h2, h3⟩ := id h
      obtain ⟨t, ht, hst⟩ := h2.src.at hs
      refine (rclose_no r m rr t w h1.rev.rf ht (hst.op.trans ho)).mono ?_
      rintro e w' ⟨rfl, rfl⟩
      exact ⟨rfl, h.mono (fun k hk => .inl hk), Kept.refl _ _⟩
    | true =>
      have hm : m < rs.length := by rw [hrl, ← h8]; exact (List.getElem?_eq_some_iff.1 hs).1
      have hsum := sum_set rs m rs[m] [] (List.getElem?_eq_getElem hm)
      refine ⟨0, (sp.close0 m).line c, rs.set m [], rfl, by simp only [List.length_nil] at hsum; omega, fun w F h => close_on f m c sp rs F none s w h hs ho (by omega), fun w G h => ?_⟩
      obtain ⟨rr, ds, h1, h2, h3⟩ := h
      obtain ⟨t, ht, hst⟩ := h2.src.at hs
      refine rclose_of r m rr t w h1.rev.rf ht (hst.op.trans ho) _ (fun W a1 a2 => ?_)
      obtain ⟨b1, -, -⟩ := h1.cells a1 rfl rfl a2
      exact lines_then (sp' := sp.close0 m) hc h1 b1 rfl (a2.mono (fun k _ e => .inl e)) (fun k hk => .inl hk) (h2.closed m s hs h8) hE

theorem feed_two (f r : Nat) (c : Cf) (sp : Sp) (rs : List (List UInt8)) (n : Int) (b : ByteArray) (h8 : sp.src.length = 8) (hc : CfOk c) (hE : heft sp rs + b.size ≤ 5000000) (hrl : rs.length = 8) : ∃ (x : Int) (sp' : Sp) (rs' : List (List UInt8)), heft sp' rs' ≤ heft sp rs + b.size ∧
    (∀ (w : World) (F : Nat → Prop) (bv : Value), FlowOn w f c sp rs F none → Row w 5 1 bv (b.data.toList.map byteV) → Calls Tryz.prog 20 #[.pointer (some ⟨f, 0, none⟩), .int .i64 n, bv] w fun e w' => e = .returned (.int .i64 x) ∧ FlowOn w' f c sp' rs' (Grown F w) none ∧ Kept F w w') ∧
    ∀ (w : World) (G : Nat → Prop), Ref w r c sp rs G → Calls Tryz.prog 57 #[.pointer (some ⟨r, 0, none⟩), .int .i64 n, .string b] w fun e w' => e = .returned (.int .i64 x) ∧ Ref w' r c sp' rs' (Grown G w) ∧ Kept G w w' := by
  rcases src_cases c sp n h8 with hn | ⟨m, s, rfl, hs⟩
  · refine ⟨3, sp, rs, Nat.le_add_right _ _, fun w F bv h _ => (feed_out_on f n c sp rs F none bv w h hn).mono (fun e w' ⟨h1, h2, h3⟩ => ⟨h1, h2.up, h3⟩), fun w G h => (rfeed_out r n b w hn).mono ?_⟩
    rintro e w' ⟨rfl, rfl⟩
    exact ⟨rfl, h.mono (fun k hk => .inl hk), Kept.refl _ _⟩
  · cases ho : s.opened with
    | false =>
      refine ⟨4, sp, rs, Nat.le_add_right _ _, fun w F bv h _ => (feed_no_on f m c sp rs F none bv s w h hs ho).mono (fun e w' ⟨h1, h2, h3⟩ => ⟨h1, h2.up, h3⟩), fun w G h => ?_⟩
      obtain ⟨rr, ds, h1, h2, h3⟩ := id h
      obtain ⟨t, ht, hst⟩ := h2.src.at hs
      refine (rfeed_no r m b rr t w h1.rev.rf ht (hst.op.trans ho)).mono ?_
      rintro e w' ⟨rfl, rfl⟩
      exact ⟨rfl, h.mono (fun k hk => .inl hk), Kept.refl _ _⟩
    | true =>
      cases hb : s.broken with
      | true =>
        refine ⟨0, sp, rs, Nat.le_add_right _ _, fun w F bv h _ => (feed_broken_on f m c sp rs F none bv s w h hs ho hb).mono (fun e w' ⟨h1, h2, h3⟩ => ⟨h1, h2.up, h3⟩), fun w G h => ?_⟩
        obtain ⟨rr, ds, h1, h2, h3⟩ := id h
        obtain ⟨t, ht, hst⟩ := h2.src.at hs
        refine (rfeed_broken r m b rr t w h1.rev.rf ht (hst.op.trans ho) (hst.br.trans hb)).mono ?_
        rintro e w' ⟨rfl, rfl⟩
        exact ⟨rfl, h.mono (fun k hk => .inl hk), Kept.refl _ _⟩
      | false =>
        have hm : m < rs.length := by rw [hrl, ← h8]; exact (List.getElem?_eq_some_iff.1 hs).1
        have hsum := sum_set rs m rs[m] (feedF c m ((rs[m] ++ b.data.toList).length + 1) sp (rs[m] ++ b.data.toList)).2 (List.getElem?_eq_getElem hm)
        have hheft := feedF_heft c m ((rs[m] ++ b.data.toList).length + 1) sp (rs[m] ++ b.data.toList)
        have hbl : b.data.toList.length = b.size := keyLen b
        have happ : (rs[m] ++ b.data.toList).length = rs[m].length + b.data.toList.length := List.length_append
        unfold heft at hE ⊢
        generalize hR : feedF c m ((rs[m] ++ b.data.toList).length + 1) sp (rs[m] ++ b.data.toList) = R at *
        have h0 := sum_set rs m rs[m] [] (List.getElem?_eq_getElem hm)
        simp only [List.length_nil] at h0
        refine ⟨0, R.1, rs.set m R.2, by omega, fun w F bv h hrow => by rw [← hR]; exact feed_on f m c sp rs F none bv b.data.toList rs[m] s w h hs ho hb (List.getElem?_eq_getElem hm) hrow (by omega), fun w G h => ?_⟩
        rw [← hR]
        exact rfeed_ref w r m c sp rs G b s hc h hs ho hb rs[m] (List.getElem?_eq_getElem hm) (by rw [List.length_append]; omega) (by omega)

theorem ref_new (w : World) (g : Nat) (c : Cf) (h : w.heap[g]? = some (.cells (RCells.new c.size c.slide c.late c.keys).cells.toArray 140)) : Ref w g c Sp.new (List.replicate 8 []) (fun k => k = g) := by
  refine ⟨RCells.new c.size c.slide c.late c.keys, [], ⟨⟨⟨h, rfl⟩, Row.nil _ _ _⟩, ⟨Row.nil _ _ _, fun x hx => by simp at hx, fun k hk => by simp [RCells.new, Value.ownBlock] at hk, fun _ => rfl⟩, rfl, fun k hk => by simp [RCells.new, Value.ownBlock] at hk, fun k hk => by simp [RCells.new, Value.ownBlock] at hk, fun x hx => by simp at hx⟩, ⟨rfl, rfl, rfl, rfl, rfl, rfl, rfl, ⟨rfl, fun i a b ha hb => ?_⟩, rfl, fun i t l ht hl _ => ?_, Nat.zero_le _, fun e he => by simp [Sp.new] at he, fun i s hs _ => ?_⟩, rfl⟩
  · have ha2 : (List.replicate 8 (⟨false, false, 0, false⟩ : SrcS))[i]? = some a := ha
    have hb2 : (List.replicate 8 RSrc.zero)[i]? = some b := hb
    rw [List.getElem?_replicate] at ha2 hb2
    split at ha2
    · rename_i hi
      rw [if_pos hi] at hb2
      cases ha2; cases hb2
      exact ⟨rfl, rfl, fun _ => rfl, fun hh => by cases hh⟩
    · cases ha2
  · have ht2 : (List.replicate 8 RSrc.zero)[i]? = some t := ht
    rw [List.getElem?_replicate] at ht2 hl
    split at ht2
    · rename_i hi
      rw [if_pos hi] at hl
      cases ht2; cases hl; rfl
    · cases ht2
  · have hs2 : (List.replicate 8 (⟨false, false, 0, false⟩ : SrcS))[i]? = some s := hs
    rw [List.getElem?_replicate] at hs2 ⊢
    split at hs2
    · rename_i hi
      rw [if_pos hi]
      cases hs2; exact ⟨rfl, rfl, rfl⟩
    · cases hs2
end Go.Proofs.YtcfngdnmpogaoaaGreat

namespace Go.Proofs.YtcfngdnmpogaoaaGreat
open Go.RowKit

/-- What a script has made: the world's block, its holds. -/
structure WInv (w : World) (bw : Nat) (ps hv : Value) (hs : List HoldD) : Prop where
  blk : w.heap[bw]? = some (.cells #[ps, hv] 84 (0, 0))
  row : Row w 133 1 hv (hs.map fun d => .pointer (some ⟨d.hb, 0, none⟩))
  holds : ∀ d ∈ hs, Hold w d

theorem Hold.kept {X : Nat → Prop} {w W : World} {d : HoldD} (h : Hold w d) (hk : Kept X w W) (h0 : ¬ X d.hb) (h1 : ∀ k, d.vb.ownBlock = some k → ¬ X k) (h2 : ∀ k, d.vt.ownBlock = some k → ¬ X k) (h3 : ∀ k, d.vw.ownBlock = some k → ¬ X k) : Hold W d :=
  ⟨(hk.block d.hb (Array.getElem?_eq_some_iff.1 h.blk).1 h0).trans h.blk, h.rb.kept hk h1, h.rt.kept hk h2, h.rw_.kept hk h3, h.lb, h.lt, h.lw⟩

theorem world_cells {w : World} {bw : Nat} {x0 x1 : Value} {t : TypeId} (h : w.heap[bw]? = some (.cells #[x0, x1] t (0, 0))) :
    w.cell? ⟨bw, 0, none⟩ = some x0 ∧ w.cell? ⟨bw, 1, none⟩ = some x1 ∧ (∀ j, w.frozen? ⟨bw, j, none⟩ = false) ∧ bw < w.heap.size := by
  refine ⟨?_, ?_, fun j => frozen_of_row w _ j _ _ h, (Array.getElem?_eq_some_iff.1 h).1⟩ <;> (rw [cell_of_row w _ _ _ _ _ h]; rfl)

/-- Behind 'w.holds = append(w.holds, h)'. -/
theorem WInv.put {W w1 : World} {bw : Nat} {ps hv hv1 : Value} {hs : List HoldD} {d : HoldD} {o : Obj} (h : WInv W bw ps hv hs) (hd : Hold W d)
    (ha : App (W.alloc o) w1 133 1 hv hv1 (hs.map fun d => .pointer (some ⟨d.hb, 0, none⟩)) [.pointer (some ⟨d.hb, 0, none⟩)]) :
    WInv (w1.setCell ⟨bw, 1, none⟩ hv1) bw ps hv1 (hs ++ [d]) ∧ Kept (fun k => k = bw ∨ hv.ownBlock = some k) W (w1.setCell ⟨bw, 1, none⟩ hv1) ∧ Stepped W hv hv1 := by
  have hb1 := App.other ha h.row h.blk (by decide)
  have hgr : Grew bw W (w1.setCell ⟨bw, 1, none⟩ hv1) 133 1 hv hv1 _ _ := Grew.of ha hb1 (by decide)
  have hH : ∀ d, Hold W d → Hold (w1.setCell ⟨bw, 1, none⟩ hv1) d := fun d hd => by
    refine hd.kept hgr.kept ?_ ?_ ?_ ?_
    · rintro (e | e)
      · exact h.row.ne_block hd.blk (by decide) e
      · have hq := h.blk; rw [← e, hd.blk] at hq; simp at hq
    · intro k hk; rintro (e | e)
      · exact hd.rb.apart h.row (by decide) hk e
      · subst e; exact hd.rb.ne_block h.blk (by decide) hk
    · intro k hk; rintro (e | e)
      · exact hd.rt.apart h.row (by decide) hk e
      · subst e; exact hd.rt.ne_block h.blk (by decide) hk
    · intro k hk; rintro (e | e)
      · exact hd.rw_.apart h.row (by decide) hk e
      · subst e; exact hd.rw_.ne_block h.blk (by decide) hk
  refine ⟨⟨heap_setCell_same w1 bw 1 _ _ hv1 hb1, by simpa using hgr.row, fun d' hd' => ?_⟩, ?_, hgr.step⟩
  · rcases List.mem_append.1 hd' with h' | h'
    · exact hH _ (h.holds _ h')
    · rw [List.mem_singleton.1 h']; exact hH _ hd
  · exact hgr.kept.mono (fun k _ h => h.symm)


/-- Where a hold shares a list's block with the last one of its chain it ends ahead of it. -/
def Linked (d' d : HoldD) : Prop :=
  (d'.vb.ownBlock = d.vb.ownBlock → offOf d'.vb = offOf d.vb ∧ d'.nb ≤ d.nb) ∧
  (d'.vt.ownBlock = d.vt.ownBlock → offOf d'.vt = offOf d.vt ∧ d'.nt ≤ d.nt) ∧
  (d'.vw.ownBlock = d.vw.ownBlock → offOf d'.vw = offOf d.vw ∧ d'.nw ≤ d.nw)

theorem Linked.refl (d : HoldD) : Linked d d := ⟨fun _ => ⟨rfl, Nat.le_refl _⟩, fun _ => ⟨rfl, Nat.le_refl _⟩, fun _ => ⟨rfl, Nat.le_refl _⟩⟩

theorem Row.none {w : World} {e : TypeId} {sz : Nat} {v : Value} {xs : List Value} (h : Row w e sz v xs) (hn : v.ownBlock = none) : offOf v = 0 ∧ xs = [] := by
  rcases h with ⟨rfl, h⟩ | ⟨g, off, n, cap, cur, rfl, _⟩
  · exact ⟨rfl, h⟩
  · simp [Value.ownBlock] at hn

theorem link_one {w : World} {e : TypeId} {sz : Nat} {u v v1 : Value} {ys : List Value} {nu n n1 : Nat} (hu : Row w e sz u ys) (hs : Stepped w v v1) (hn : n ≤ n1) (hl : u.ownBlock = v.ownBlock → offOf u = offOf v ∧ nu ≤ n) : u.ownBlock = v1.ownBlock → offOf u = offOf v1 ∧ nu ≤ n1 := by
  intro he
  rcases hs with ⟨h1, h2⟩ | ⟨k, h1, h2⟩
  · have := hl (he.trans h1)
    exact ⟨this.1.trans h2.symm, by omega⟩
  · rw [h1] at he
    have := (hu.blk_lt he).1
    omega

theorem Longer.linked {W W' : World} {d d1 d' : HoldD} (hL : Longer W W' d d1) (hd' : Hold W d') (hl : Linked d' d) : Linked d' d1 := by
  obtain ⟨_, e1, e2, e3⟩ := hL.same
  exact ⟨link_one hd'.rb hL.pb (by omega) hl.1, link_one hd'.rt hL.pt (by omega) hl.2.1, link_one hd'.rw_ hL.pw (by omega) hl.2.2⟩

theorem Longer.holds {W W' : World} {d d1 d' : HoldD} (hL : Longer W W' d d1) (hd : Hold W d) (hd' : Hold W d') (hl : Linked d' d) : Hold W' d' := by
  refine ⟨(hL.kept.block d'.hb (Array.getElem?_eq_some_iff.1 hd'.blk).1 ?_).trans hd'.blk, ?_, ?_, ?_, hd'.lb, hd'.lt, hd'.lw⟩
  · rintro (h | h | h)
    · exact hd.rb.ne_block hd'.blk (by decide) h
    · exact hd.rt.ne_block hd'.blk (by decide) h
    · exact hd.rw_.ne_block hd'.blk (by decide) h
  · exact hL.sb _ _ hd'.rb (fun e => by rw [signs_len]; exact hl.1 e)
  · exact hL.st _ _ hd'.rt (fun e => by rw [tagsOf_len]; exact hl.2.1 e)
  · exact hL.sw _ _ hd'.rw_ (fun e => by rw [winOf_len]; have := hl.2.2 e; exact ⟨this.1, by omega⟩)

/-- WInv behind a step that turns only blocks of the lists of a hold. -/
theorem WInv.longer {W W' : World} {bw : Nat} {ps hv : Value} {hs : List HoldD} {d d1 : HoldD} (h : WInv W bw ps hv hs) (hd : Hold W d) (hL : Longer W W' d d1) (hl : ∀ d' ∈ hs, Linked d' d) : WInv W' bw ps hv hs := by
  refine ⟨(hL.kept.block bw (Array.getElem?_eq_some_iff.1 h.blk).1 ?_).trans h.blk, h.row.kept hL.kept ?_, fun d' hd' => hL.holds hd (h.holds d' hd') (hl d' hd')⟩
  · rintro (e | e | e)
    · exact hd.rb.ne_block h.blk (by decide) e
    · exact hd.rt.ne_block h.blk (by decide) e
    · exact hd.rw_.ne_block h.blk (by decide) e
  · intro k hk
    rintro (e | e | e)
    · exact h.row.apart hd.rb (by decide) hk e
    · exact h.row.apart hd.rt (by decide) hk e
    · exact h.row.apart hd.rw_ (by decide) hk e

/-- A hold all of whose blocks are of a kind. -/
def HoldIn (N : Nat → Prop) (d : HoldD) : Prop := N d.hb ∧ (∀ k, d.vb.ownBlock = some k → N k) ∧ (∀ k, d.vt.ownBlock = some k → N k) ∧ ∀ k, d.vw.ownBlock = some k → N k

/-- 'keep', n rounds on; T: the blocks that it may turn. -/
structure KInv (T N : Nat → Prop) (w W : World) (bw : Nat) (ps : Value) (hs : List HoldD) (len n : Nat) (d : HoldD) (hvn : Value) (hsn : List HoldD) : Prop where
  inv : WInv W bw ps hvn (hs ++ hsn)
  many : hsn.length = n + 1
  mem : d ∈ hsn
  kept : Kept T w W
  hvb : ∀ k, hvn.ownBlock = some k → T k
  nums : d.nb = len + n ∧ d.nt = n ∧ d.nw = n
  bb : ∀ k, d.vb.ownBlock = some k → T k
  bt : ∀ k, d.vt.ownBlock = some k → T k
  bwd : ∀ k, d.vw.ownBlock = some k → T k
  links : ∀ d' ∈ hs ++ hsn, Linked d' d
  news : ∀ d' ∈ hsn, HoldIn N d'

theorem stepped_in {T : Nat → Prop} {b : Nat} {W : World} {v v1 : Value} (h : Stepped W v v1) (hs : b ≤ W.heap.size) (hT : ∀ k, b ≤ k → T k) (hv : ∀ k, v.ownBlock = some k → T k) : ∀ k, v1.ownBlock = some k → T k := by
  intro k hk
  rcases h with ⟨h1, _⟩ | ⟨k', h1, h2⟩
  · exact hv k (h1 ▸ hk)
  · rw [h1] at hk; simp only [Option.some.injEq] at hk; exact hT k (by omega)

/-- One round of keep's loop. -/
theorem KInv.step {T N : Nat → Prop} {w W W' w1 : World} {bw : Nat} {ps hvn hv1 : Value} {hs hsn : List HoldD} {len n : Nat} {d d1 : HoldD} {o : Obj} (h : KInv T N w W bw ps hs len n d hvn hsn) (hN : ∀ k, w.heap.size ≤ k → N k) (hT : ∀ k, w.heap.size ≤ k → T k) (hTb : T bw) (hL : Longer W W' d d1)
    (ha : App (W'.alloc o) w1 133 1 hvn hv1 ((hs ++ hsn).map fun d => .pointer (some ⟨d.hb, 0, none⟩)) [.pointer (some ⟨d1.hb, 0, none⟩)]) :
    KInv T N w (w1.setCell ⟨bw, 1, none⟩ hv1) bw ps hs len (n + 1) d1 hv1 (hsn ++ [d1]) := by
  have hd := h.inv.holds d (List.mem_append_right _ h.mem)
  have hW' := h.inv.longer hd hL h.links
  obtain ⟨p1, p2, p3⟩ := hW'.put hL.hold ha
  obtain ⟨_, e1, e2, e3⟩ := hL.same
  obtain ⟨n1, n2, n3⟩ := h.nums
  have hs1 : w.heap.size ≤ W.heap.size := h.kept.size
  have hs2 : W.heap.size ≤ W'.heap.size := hL.kept.size
  refine ⟨by rw [List.append_assoc] at p1; exact p1, by simp [h.many], by simp, ?_, stepped_in p3 (by omega) hT h.hvb, ⟨by omega, by omega, by omega⟩, stepped_in hL.pb (by omega) hT h.bb, stepped_in hL.pt (by omega) hT h.bt, stepped_in hL.pw (by omega) hT h.bwd, ?_, ?_⟩
  · refine (h.kept.step hL.kept ?_).step p2 ?_
    · intro i hi
      rintro (e | e | e)
      · exact h.bb i e
      · exact h.bt i e
      · exact h.bwd i e
    · intro i hi
      rintro (e | e)
      · rw [e]; exact hTb
      · exact h.hvb i e
  · intro d' hd'
    rw [← List.append_assoc] at hd'
    rcases List.mem_append.1 hd' with h' | h'
    · exact hL.linked (h.inv.holds d' h') (h.links d' h')
    · rw [List.mem_singleton.1 h']; exact Linked.refl _
  · intro d' hd'
    rcases List.mem_append.1 hd' with h' | h'
    · exact h.news d' h'
    · rw [List.mem_singleton.1 h']
      obtain ⟨-, o1, o2, o3⟩ := h.news d h.mem
      have hf := hL.fresh
      exact ⟨hN _ (by omega), stepped_in hL.pb hs1 hN o1, stepped_in hL.pt hs1 hN o2, stepped_in hL.pw hs1 hN o3⟩

end Go.Proofs.YtcfngdnmpogaoaaGreat

namespace Go.Proofs.YtcfngdnmpogaoaaGreat
open Go.RowKit

theorem info97 : (Tryz.prog.info? 133).map (fun i => (i.zero, i.size, i.bytes)) = some (some (.pointer none), 1, 8) := by kernel_rfl

set_option maxRecDepth 20000 in
set_option maxHeartbeats 1600000 in
theorem hkeep_any (bw hb : Nat) (ps hv vb : Value) (hs : List HoldD) (xs : List Value) (B : Nat) (w : World) (h : WInv w bw ps hv hs)
    (hblk : w.heap[hb]? = some (.cells #[vb, .slice none 0 0, .slice none 0 0, .int .i64 0] 135 (0, 0))) (hrow : Row w 5 1 vb xs)
    (hB : ∀ d ∈ hs, d.hb < B ∧ (∀ k, d.vb.ownBlock = some k → k < B) ∧ (∀ k, d.vt.ownBlock = some k → k < B) ∧ (∀ k, d.vw.ownBlock = some k → k < B))
    (hBh : B ≤ hb) (hBv : ∀ k, vb.ownBlock = some k → B ≤ k) (N : Nat → Prop) (hN1 : N hb) (hN2 : ∀ k, vb.ownBlock = some k → N k) (hN3 : ∀ k, w.heap.size ≤ k → N k) (hl1 : hs.length + 4 ≤ 17592186044416) (hl2 : xs.length + 3 ≤ 140737488355328) :
    Calls Tryz.prog 59 #[.pointer (some ⟨bw, 0, none⟩), .pointer (some ⟨hb, 0, none⟩)] w fun e w' => (∃ v, e = .returned v) ∧
      ∃ hs' hv', hs'.length = 4 ∧ WInv w' bw ps hv' (hs ++ hs') ∧ Kept (fun k => k = bw ∨ hv.ownBlock = some k ∨ k = hb ∨ vb.ownBlock = some k) w w' ∧ (∀ k, hv'.ownBlock = some k → hv.ownBlock = some k ∨ N k) ∧ ∀ d ∈ hs', HoldIn N d := by
  obtain ⟨i97, hi97, hz970, hz971, hz972⟩ := info_parts info97
  obtain ⟨c0, c1, fw, hbw⟩ := world_cells h.blk
  obtain ⟨d0, d1, d2, d3, fh, hbh⟩ := hold_cells hblk
  obtain ⟨ah, ch, hvh, -⟩ := h.row.len (by decide)
  rw [List.length_map, Nat.div_one] at hvh
  subst hvh
  have hne : ¬ bw = hb := fun e => by have := h.blk; rw [e, hblk] at this; simp at this
  have hne' : ¬ hb = bw := fun e => hne e.symm
  go_enter Tryz.func59, Tryz.ntmps59
  go_wp2_with fail
  -- marks
  obtain ⟨M, HM⟩ : ∃ M : Int, Hid ((hs.length : Int) + 1 = M) := ⟨_, rfl⟩
  rw [HM.out]
  have hblk0 := put3 (y := .int .i64 M) hblk
  have hrow0 := hrow.setCell ⟨hb, 3, none⟩ (.int .i64 M) (hrow.ne_block hblk (by decide))
  obtain ⟨T, HT⟩ : ∃ T : Nat → Prop, Hid (T = fun k => k = bw ∨ (Value.slice ah hs.length ch).ownBlock = some k ∨ k = hb ∨ vb.ownBlock = some k ∨ w.heap.size ≤ k) := ⟨_, rfl⟩
  have hTb : Hid (T bw) := by show T bw; rw [HT.out]; exact .inl rfl
  have hTv : Hid (∀ k, (Value.slice ah hs.length ch).ownBlock = some k → T k) := by intro k e; rw [HT.out]; exact .inr (.inl e)
  have hTh : Hid (T hb) := by show T hb; rw [HT.out]; exact .inr (.inr (.inl rfl))
  have hTr : Hid (∀ k, vb.ownBlock = some k → T k) := by intro k e; rw [HT.out]; exact .inr (.inr (.inr (.inl e)))
  have hTn : Hid (∀ k, w.heap.size ≤ k → T k) := by intro k e; rw [HT.out]; exact .inr (.inr (.inr (.inr e)))
  have hk0 : Kept T w (w.setCell ⟨hb, 3, none⟩ (.int .i64 M)) := (Kept.refl _ w).setCell _ _ (fun _ => hTh.out)
  have hk0' : Kept (fun k => k = hb) w (w.setCell ⟨hb, 3, none⟩ (.int .i64 M)) := (Kept.refl _ w).setCell _ _ (fun _ => rfl)
  generalize w.setCell ⟨hb, 3, none⟩ (.int .i64 M) = w0 at *
  refine (marks_bytes hb M vb xs w0 hblk0 hrow0 (by omega)).mono ?_
  rintro e W1 ⟨⟨v, rfl⟩, hrow1, hk1⟩
  have hblk1 := (hk1.block hb (by have := hk0.size; omega) (hrow0.ne_block hblk0 (by decide))).trans hblk0
  have hinv1 : WInv W1 bw ps (.slice ah hs.length ch) hs := by
    have hb0 := (hk0'.block bw hbw (by omega)).trans h.blk
    have hr0 := h.row.kept hk0' (fun k hk => by rintro rfl; exact h.row.ne_block hblk (by decide) hk)
    refine ⟨(hk1.block bw (by have := hk0.size; omega) (hrow0.ne_block hb0 (by decide))).trans hb0, hr0.kept hk1 (fun k hk => hr0.apart hrow0 (by decide) hk), fun d hd => ?_⟩
    obtain ⟨q0, q1, q2, q3⟩ := hB d hd
    have hd0 := (h.holds d hd).kept hk0' (by omega) (fun k hk => by have := q1 k hk; omega) (fun k hk => by have := q2 k hk; omega) (fun k hk => by have := q3 k hk; omega)
    refine hd0.kept hk1 (fun e => by have := hBv _ e; omega) (fun k hk e => ?_) (fun k hk e => ?_) (fun k hk e => ?_)
    · have := q1 k hk; have := hBv _ e; omega
    · have := q2 k hk; have := hBv _ e; omega
    · have := q3 k hk; have := hBv _ e; omega
  have hd1 : Hold W1 ⟨hb, M, xs.length, 0, 0, vb, .slice none 0 0, .slice none 0 0⟩ := ⟨hblk1, hrow1, Row.nil _ _ _, Row.nil _ _ _, by simp only; omega, by simp only; omega, by simp only; omega⟩
  have hkw1 : Kept T w W1 := hk0.step hk1 (fun i _ e => hTr.out i e)
  have hs0 := hk0.size
  have hs1 := hk1.size
  clear hk0 hk0' hblk0 hrow0 hk1 hrow1 d0 d1 d2 d3 fh c0 c1 fw hblk hrow
  obtain ⟨c0, c1, fw, hbw1⟩ := world_cells hinv1.blk
  have hr97 := hinv1.row
  have hln : (hs.map fun d => Value.pointer (some ⟨d.hb, 0, none⟩)).length = hs.length := List.length_map ..
  generalize hptrs : (hs.map fun d => Value.pointer (some ⟨d.hb, 0, none⟩)) = ptrs at *
  have Hptrs : Hid ((hs.map fun d => Value.pointer (some ⟨d.hb, 0, none⟩)) = ptrs) := hptrs
  clear hptrs
  generalize hhv : Value.slice ah hs.length ch = hv0 at *
  have Hhv : Hid (Value.slice ah hs.length ch = hv0) := hhv
  clear hhv
  go_wp2_with (at_builtin; go_must (refine wpList_append _ rfl _ _ _ _ rfl 133 i97 (.pointer none) 1 8 Tryz.underlying82 hi97 hz970 hz971 hz972 rfl Nat.one_pos hv0 ptrs rfl (hr97.alloc _) (.slice (some ⟨W1.heap.size, 0, none⟩) 1 1) 1 [.pointer (some ⟨hb, 0, none⟩)] rfl ?hsrc Nat.one_pos ?h63 ?hby ?next))
  case hsrc => exact Src.ofSlice _ Tryz.underlying82 ⟨W1.heap.size, 0, none⟩ 1 1 _ rfl (one_new W1 _ _) (by simp [Value.oneCell'])
  case h63 => simp only [maxLen]; omega
  case hby => omega
  intro v1 w1 ha1
  rw [← Hptrs.out] at ha1
  have hbb1 := App.other ha1 hinv1.row hinv1.blk (by decide)
  obtain ⟨e0, e1, fw1, hbw2⟩ := world_cells hbb1
  obtain ⟨g1, o1, n1, k1, hv1, -, -⟩ := ha1.row.shape (by simp)
  subst hv1
  clear c0 c1 fw
  go_wp2
  generalize Value.slice (some ⟨g1, o1, none⟩) n1 k1 = v1 at *
  obtain ⟨p1, p2, p3⟩ := hinv1.put hd1 ha1
  have hK : KInv T N w (w1.setCell ⟨bw, 1, none⟩ v1) bw ps hs xs.length 0 ⟨hb, M, xs.length, 0, 0, vb, .slice none 0 0, .slice none 0 0⟩ v1 [⟨hb, M, xs.length, 0, 0, vb, .slice none 0 0, .slice none 0 0⟩] := by
    refine ⟨p1, rfl, by simp, hkw1.step p2 (fun i _ e => by rcases e with e | e; (rw [e]; exact hTb.out); exact hTv.out i e), stepped_in p3 (by omega) hTn.out hTv.out, ⟨rfl, rfl, rfl⟩, hTr.out, by simp [Value.ownBlock], by simp [Value.ownBlock], ?_, fun d' hd' => by rw [List.mem_singleton.1 hd']; exact ⟨hN1, hN2, by simp [Value.ownBlock], by simp [Value.ownBlock]⟩⟩
    · intro d' hd'
      rcases List.mem_append.1 hd' with h' | h'
      · obtain ⟨q0, q1, q2, q3⟩ := hB d' h'
        have hh := h.holds d' h'
        refine ⟨fun e => ?_, fun e => ?_, fun e => ?_⟩
        · simp only at e ⊢
          cases hvo : vb.ownBlock with
          | none =>
            rw [hvo] at e
            obtain ⟨r1, r2⟩ := hh.rb.none e
            have r3 := congrArg List.length r2
            rw [signs_len] at r3
            have : offOf vb = 0 := by
              obtain ⟨r4, _⟩ := hd1.rb.none hvo
              exact r4
            simp at r3
            omega
          | some k =>
            rw [hvo] at e
            have := q1 k e; have := hBv k hvo; omega
        · obtain ⟨r1, r2⟩ := hh.rt.none e
          have r3 := congrArg List.length r2
          rw [tagsOf_len] at r3
          simp at r3
          exact ⟨r1, by omega⟩
        · obtain ⟨r1, r2⟩ := hh.rw_.none e
          have r3 := congrArg List.length r2
          rw [winOf_len] at r3
          simp at r3
          exact ⟨r1, by omega⟩
      · rw [List.mem_singleton.1 h']; exact Linked.refl _
  have HK : Hid (KInv T N w (w1.setCell ⟨bw, 1, none⟩ v1) bw ps hs xs.length 0 ⟨hb, M, xs.length, 0, 0, vb, .slice none 0 0, .slice none 0 0⟩ v1 [⟨hb, M, xs.length, 0, 0, vb, .slice none 0 0, .slice none 0 0⟩]) := hK
  clear hK p1 p2 p3 ha1 hbb1 e0 e1 fw1 hbw2
  generalize w1.setCell ⟨bw, 1, none⟩ v1 = W2 at *
  go_loopw [4, 5] (fun gp c wr => ∃ (n : Nat) (d : HoldD) (hvn : Value) (hsn : List HoldD), n ≤ 3 ∧ c = .int .i64 (n : Int) ∧ gp = .pointer (some ⟨d.hb, 0, none⟩) ∧ KInv T N w wr bw ps hs xs.length n d hvn hsn) (fun _ c _ => 3 - (intOf c).toNat)
  case atStart => exact ⟨0, _, _, _, by omega, rfl, rfl, HK.out⟩
  case round =>
    obtain ⟨n, d, hvn, hsn, hn, rfl, rfl, hKI⟩ := hrel
    clear HK hinv1 hd1 hkw1 hbw1 hr97 hblk1
    by_cases hn3 : n < 3
    · have HK : Hid (KInv T N w wr bw ps hs xs.length n d hvn hsn) := hKI
      have hdd := hKI.inv.holds d (List.mem_append_right _ hKI.mem)
      obtain ⟨m1, m2, m3⟩ := hKI.nums
      obtain ⟨hb2, M2, nb2, nt2, nw2, vb2, vt2, vw2⟩ := d
      simp only at m1 m2 m3 ⊢
      have Hdd : Hid (Hold wr ⟨hb2, M2, nb2, nt2, nw2, vb2, vt2, vw2⟩) := hdd
      have M1 : Hid (nb2 = xs.length + n) := m1
      have M2' : Hid (nt2 = n) := m2
      have M3 : Hid (nw2 = n) := m3
      clear hKI hdd m1 m2 m3
      go_wp2_with fail
      refine (longer_any hb2 M2 nb2 nt2 nw2 vb2 vt2 vw2 wr Hdd.out (by rw [M1.out]; omega) (by rw [M2'.out]; omega) (by rw [M3.out]; omega)).mono ?_
      rintro e W3 ⟨d1, rfl, hL⟩
      have hinv3 := HK.out.inv.longer Hdd.out hL HK.out.links
      have hm3 := HK.out.many
      have HL : Hid (Longer wr W3 ⟨hb2, M2, nb2, nt2, nw2, vb2, vt2, vw2⟩ d1) := hL
      clear hL
      obtain ⟨c0, c1, fw, hbw3⟩ := world_cells hinv3.blk
      have hr97 := hinv3.row
      have hln : ((hs ++ hsn).map fun d => Value.pointer (some ⟨d.hb, 0, none⟩)).length = hs.length + (n + 1) := by rw [List.length_map, List.length_append, hm3]
      generalize hptrs : ((hs ++ hsn).map fun d => Value.pointer (some ⟨d.hb, 0, none⟩)) = ptrs at *
      have Hptrs : Hid (((hs ++ hsn).map fun d => Value.pointer (some ⟨d.hb, 0, none⟩)) = ptrs) := hptrs
      clear hptrs
      go_wp2_with (at_builtin; go_must (refine wpList_append _ rfl _ _ _ _ rfl 133 i97 (.pointer none) 1 8 Tryz.underlying82 hi97 hz970 hz971 hz972 rfl Nat.one_pos hvn ptrs rfl (hr97.alloc _) (.slice (some ⟨W3.heap.size, 0, none⟩) 1 1) 1 [.pointer (some ⟨d1.hb, 0, none⟩)] rfl ?hsrc2 Nat.one_pos ?h632 ?hby2 ?next2))
      case hsrc2 => exact Src.ofSlice _ Tryz.underlying82 ⟨W3.heap.size, 0, none⟩ 1 1 _ rfl (one_new W3 _ _) (by simp [Value.oneCell'])
      case h632 => simp only [maxLen]; omega
      case hby2 => omega
      intro v4 w4 ha4
      rw [← Hptrs.out] at ha4
      have hbb4 := App.other ha4 hinv3.row hinv3.blk (by decide)
      obtain ⟨e0, e1, fw1, hbw4⟩ := world_cells hbb4
      obtain ⟨g1, o1, n1, k1, hv1, -, -⟩ := ha4.row.shape (by simp)
      subst hv1
      clear c0 c1 fw
      go_wp2
      generalize Value.slice (some ⟨g1, o1, none⟩) n1 k1 = v4 at *
      have hK2 := HK.out.step hN3 hTn.out hTb.out HL.out ha4
      go_roundw
      case rel => exact ⟨n + 1, d1, v4, hsn ++ [d1], by omega, by go_num, rfl, hK2⟩
      case measure => simp [intOf]; omega
    · have hn' : n = 3 := by omega
      subst hn'
      have HK : Hid (KInv T N w wr bw ps hs xs.length 3 d hvn hsn) := hKI
      clear hKI
      go_wp2
      go_end0
      refine ⟨⟨_, rfl⟩, hsn, hvn, HK.out.many, HK.out.inv, ?_, ?_, HK.out.news⟩
      rotate_left
      · intro k hk
        have hTk := HK.out.hvb k hk
        rw [HT.out] at hTk
        rcases hTk with e | e | e | e | e
        · rw [e] at hk; exact absurd hk (HK.out.inv.row.ne_block HK.out.inv.blk (by decide))
        · exact .inl (by rw [Hhv.out]; exact e)
        · exact .inr (by rw [e]; exact hN1)
        · exact .inr (hN2 k e)
        · exact .inr (hN3 k e)
      have hkk := HK.out.kept
      rw [HT.out] at hkk
      refine hkk.mono (fun k hk e => ?_)
      rcases e with e | e | e | e | e
      · exact .inl e
      · exact .inr (.inl (by rw [Hhv.out]; exact e))
      · exact .inr (.inr (.inl e))
      · exact .inr (.inr (.inr e))
      · omega

end Go.Proofs.YtcfngdnmpogaoaaGreat

namespace Go.Proofs.YtcfngdnmpogaoaaGreat
open Go.RowKit

theorem WInv.below {w W : World} {bw : Nat} {ps hv : Value} {hs : List HoldD} (h : WInv w bw ps hv hs) (hb : Below w.heap.size w W) : WInv W bw ps hv hs := by
  have hk := Kept.ofBelow hb (fun _ => False)
  exact ⟨(hk.block bw (Array.getElem?_eq_some_iff.1 h.blk).1 id).trans h.blk, h.row.kept hk (fun _ _ => id), fun d hd => (h.holds d hd).kept hk id (fun _ _ => id) (fun _ _ => id) (fun _ _ => id)⟩

set_option maxHeartbeats 1600000 in
theorem looks_any (bw : Nat) (ps hv : Value) (hs : List HoldD) (w : World) (h : WInv w bw ps hv hs) (hl : hs.length ≤ 9223372036854775807) :
    Calls Tryz.prog 33 #[.pointer (some ⟨bw, 0, none⟩)] w fun e w' => e = .returned (.bool true) ∧ Below w.heap.size w w' := by
  obtain ⟨ah, ch, hvh, -⟩ := h.row.len (by decide)
  rw [List.length_map, Nat.div_one] at hvh
  subst hvh
  have H : Hid (WInv w bw ps (.slice ah hs.length ch) hs) := h
  clear h
  go_enter Tryz.func33, Tryz.ntmps33
  go_wp2
  go_loopw [3] (fun i wr => ∃ k : Nat, k ≤ hs.length ∧ i = .int .i64 (k : Int) ∧ Below w.heap.size w wr) (fun i _ => hs.length - (intOf i).toNat)
  case atStart => exact ⟨0, Nat.zero_le _, rfl, Below.refl _ _⟩
  case round =>
    obtain ⟨k, hk, rfl, hbw⟩ := hrel
    have hinv := H.out.below hbw
    obtain ⟨c0, c1, fw, hbw1⟩ := world_cells hinv.blk
    have Hbw : Hid (Below w.heap.size w wr) := hbw
    clear hbw
    by_cases hkn : k < hs.length
    · obtain ⟨g, off, rfl⟩ := slice_some hinv.row (by omega)
      have hcell := hinv.row.cell k (by omega)
      rw [List.getElem?_map, List.getElem?_eq_getElem hkn, Option.map_some] at hcell
      have hd := hinv.holds hs[k] (List.getElem_mem hkn)
      have Hd : Hid (Hold wr hs[k]) := hd
      clear hd hinv
      generalize hs[k] = d at *
      go_wp2_with fail
      refine (marked_any d wr Hd.out).mono ?_
      rintro e w' ⟨rfl, hb'⟩
      go_wp2
      go_roundw
      case rel => exact ⟨k + 1, by omega, by go_num, Hbw.out.trans (hb'.mono Hbw.out.size)⟩
      case measure => simp [intOf]; omega
    · clear hinv
      go_wp2
      go_ret
      exact ⟨rfl, Hbw.out⟩

end Go.Proofs.YtcfngdnmpogaoaaGreat
