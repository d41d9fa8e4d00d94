import Derived.Test.YtcfngdnmpogaoaaGreatPcA01
import Derived.Test.YtcfngdnmpogaoaaGreatPcA02
namespace Go.Proofs.YtcfngdnmpogaoaaGreat
open Go.RowKit

abbrev FSt := Sp × List (List UInt8) × Option Int
def Duo (n0 : Nat) (X : Nat → Prop) (w : World) (f g : Nat) (c : Cf) (a b : FSt) : Prop :=
  ∃ F G, FlowOn w f c a.1 a.2.1 F a.2.2 ∧ FlowOn w g c b.1 b.2.1 G b.2.2 ∧ (∀ k, F k → n0 ≤ k ∧ k < w.heap.size ∧ ¬ X k ∧ ¬ G k) ∧ (∀ k, G k → n0 ≤ k ∧ k < w.heap.size ∧ ¬ X k)
theorem Duo.swap {n0 : Nat} {X : Nat → Prop} {w : World} {f g : Nat} {c : Cf} {a b : FSt} (h : Duo n0 X w f g c a b) : Duo n0 X w g f c b a := by
  obtain ⟨F, G, h1, h2, h3, h4⟩ := h
  exact ⟨G, F, h2, h1, fun k hk => ⟨(h4 k hk).1, (h4 k hk).2.1, (h4 k hk).2.2, fun hf => (h3 k hf).2.2.2 hk⟩, fun k hk => ⟨(h3 k hk).1, (h3 k hk).2.1, (h3 k hk).2.2.1⟩⟩
theorem Duo.kept {n0 : Nat} {X Y : Nat → Prop} {w w' : World} {f g : Nat} {c : Cf} {a b : FSt} (h : Duo n0 X w f g c a b) (hk : Kept Y w w') (hY : ∀ k, k < w.heap.size → Y k → k < n0 ∨ X k) : Duo n0 X w' f g c a b := by
  obtain ⟨F, G, h1, h2, h3, h4⟩ := h
  have hs := hk.size
  refine ⟨F, G, h1.kept hk (fun k hf hy => ?_), h2.kept hk (fun k hf hy => ?_), fun k hf => ⟨(h3 k hf).1, by have := (h3 k hf).2.1; omega, (h3 k hf).2.2⟩, fun k hf => ⟨(h4 k hf).1, by have := (h4 k hf).2.1; omega, (h4 k hf).2.2⟩⟩
  · obtain ⟨q1, q2, q3, -⟩ := h3 k hf
    rcases hY k q2 hy with h | h
    · omega
    · exact q3 h
  · obtain ⟨q1, q2, q3⟩ := h4 k hf
    rcases hY k q2 hy with h | h
    · omega
    · exact q3 h
theorem Duo.below {n0 : Nat} {X : Nat → Prop} {w w' : World} {f g : Nat} {c : Cf} {a b : FSt} (h : Duo n0 X w f g c a b) (hb : Below w.heap.size w w') : Duo n0 X w' f g c a b := h.kept (Kept.ofBelow hb (fun _ => False)) (fun _ _ h => h.elim)
theorem Duo.wide {n0 : Nat} {X X' : Nat → Prop} {w : World} {f g : Nat} {c : Cf} {a b : FSt} (h : Duo n0 X w f g c a b) (hX : ∀ k, X' k → X k ∨ w.heap.size ≤ k) : Duo n0 X' w f g c a b := by
  obtain ⟨F, G, h1, h2, h3, h4⟩ := h
  refine ⟨F, G, h1, h2, fun k hf => ⟨(h3 k hf).1, (h3 k hf).2.1, fun hx => ?_, (h3 k hf).2.2.2⟩, fun k hf => ⟨(h4 k hf).1, (h4 k hf).2.1, fun hx => ?_⟩⟩
  · rcases hX k hx with h | h
    · exact (h3 k hf).2.2.1 h
    · have := (h3 k hf).2.1; omega
  · rcases hX k hx with h | h
    · exact (h4 k hf).2.2 h
    · have := (h4 k hf).2.1; omega
theorem Duo.left {n0 : Nat} {X : Nat → Prop} {w : World} {f g : Nat} {c : Cf} {a b a' : FSt} (h : Duo n0 X w f g c a b) (hX : ∀ k, X k → k < w.heap.size) (h0 : n0 ≤ w.heap.size) {fn : Nat} {args : Array Value} {P : Ending → Prop}
    (hc : ∀ F, FlowOn w f c a.1 a.2.1 F a.2.2 → Calls Tryz.prog fn args w fun e w' => P e ∧ FlowOn w' f c a'.1 a'.2.1 (Grown F w) a'.2.2 ∧ Kept F w w') :
    Calls Tryz.prog fn args w fun e w' => P e ∧ Duo n0 X w' f g c a' b ∧ Kept (fun k => n0 ≤ k ∧ ¬ X k) w w' := by
  obtain ⟨F, G, h1, h2, h3, h4⟩ := h
  refine (hc F h1).mono ?_
  rintro e w' ⟨hP, hF, hk⟩
  have hs := hk.size
  refine ⟨hP, ⟨_, G, hF.lt, h2.kept hk (fun k hg hf => (h3 k hf).2.2.2 hg), ?_, fun k hg => ⟨(h4 k hg).1, by have := (h4 k hg).2.1; omega, (h4 k hg).2.2⟩⟩, hk.mono (fun k _ hf => ⟨(h3 k hf).1, (h3 k hf).2.2.1⟩)⟩
  rintro k ⟨hg | hg, hl⟩
  · exact ⟨(h3 k hg).1, hl, (h3 k hg).2.2⟩
  · exact ⟨by omega, hl, fun hx => by have := hX k hx; omega, fun hx => by have := (h4 k hx).2.1; omega⟩

def OutB (ov : Value) (ys : List WinX) (k : Nat) : Prop := ov.ownBlock = some k ∨ ∃ x ∈ ys, x.tv.ownBlock = some k
theorem Duo.take {n0 : Nat} {X : Nat → Prop} {w : World} {f g : Nat} {c : Cf} {sp : Sp} {rs : List (List UInt8)} {T : Option Int} {b : FSt} (HRis : RisingOk) (HSo : SortOk) (h : Duo n0 X w f g c (sp, rs, T) b) (hX : ∀ k, X k → k < w.heap.size) (h0 : n0 ≤ w.heap.size) (hli : sp.E ≠ [] → sp.li = true) (hE : sp.E.length ≤ 200000) (hz : c.size ≤ 4096 * c.slide) (hlt : sp.lt ≤ 2305843009213693952) :
    Calls Tryz.prog 25 #[.pointer (some ⟨f, 0, none⟩)] w fun e w' => ∃ ov ys, e = .returned ov ∧ WinsAt w' ov ys 0 ∧ DoneOk c.size c.slide T sp.lt sp.li sp.E (ys.map WinX.w) ∧ (∀ k, OutB ov ys k → w.heap.size ≤ k ∧ k < w'.heap.size) ∧ Duo n0 (fun k => X k ∨ OutB ov ys k) w' f g c (sp, rs, tookT sp T) b ∧ Kept (fun k => n0 ≤ k ∧ ¬ X k) w w' := by
  obtain ⟨F, G, h1, h2, h3, h4⟩ := h
  refine (take_on HRis HSo f c sp rs F T w h1 hli hE hz hlt).mono ?_
  rintro e w' ⟨ov, ys, rfl, hw, hd, hov, hys, -, hF, hk⟩
  have hs := hk.size
  have hO : ∀ k, OutB ov ys k → w.heap.size ≤ k ∧ k < w'.heap.size := fun k hk => by
    rcases hk with hk | ⟨x, hx, hk⟩
    · exact ⟨hov k hk, (hw.row.blk_lt hk).1⟩
    · exact ⟨hys x hx k hk, ((hw.tags x hx).1.blk_lt hk).1⟩
  have hR : ∀ k, OutB ov ys k → ∃ e sz v xs, Row w' e sz v xs ∧ (e = 70 ∨ e = 26) ∧ v.ownBlock = some k := fun k hk => by
    rcases hk with hk | ⟨x, hx, hk⟩
    · exact ⟨_, _, _, _, hw.row, .inl rfl, hk⟩
    · exact ⟨_, _, _, _, (hw.tags x hx).1, .inr rfl, hk⟩
  refine ⟨ov, ys, rfl, hw, hd, hO, ⟨_, G, (hF.lt).shun (X := OutB ov ys) hR, h2.kept hk (fun k hg hf => (h3 k hf).2.2.2 hg), ?_, fun k hg => ⟨(h4 k hg).1, by have := (h4 k hg).2.1; omega, fun hx => ?_⟩⟩, hk.mono (fun k _ hf => ⟨(h3 k hf).1, (h3 k hf).2.2.1⟩)⟩
  · rintro k ⟨⟨hg | hg, hl⟩, hn⟩
    · exact ⟨(h3 k hg).1, hl, fun hx => hx.elim (h3 k hg).2.2.1 hn, (h3 k hg).2.2.2⟩
    · exact ⟨by omega, hl, fun hx => hx.elim (fun hx => by have := hX k hx; omega) hn, fun hx => by have := (h4 k hx).2.1; omega⟩
  · rcases hx with hx | hx
    · exact (h4 k hg).2.2 hx
    · have := (h4 k hg).2.1; have := (hO k hx).1; omega
theorem Duo.line {n0 : Nat} {X : Nat → Prop} {w : World} {f g : Nat} {c : Cf} {a b : FSt} (h : Duo n0 X w f g c a b) (hX : ∀ k, X k → k < w.heap.size) (h0 : n0 ≤ w.heap.size) :
    Calls Tryz.prog 29 #[.pointer (some ⟨f, 0, none⟩)] w fun e w' => e = .returned (.tuple #[.int .i64 a.1.lt, .bool a.1.li]) ∧ Duo n0 X w' f g c a b ∧ Kept (fun k => n0 ≤ k ∧ ¬ X k) w w' :=
  h.left hX h0 (fun F hF => (line_on f c a.1 a.2.1 F a.2.2 w hF).mono (fun _ _ ⟨h1, h2, h3⟩ => ⟨h1, h2.mono (fun _ h => .inl h), h3⟩))
theorem Duo.counts {n0 : Nat} {X : Nat → Prop} {w : World} {f g : Nat} {c : Cf} {a b : FSt} (h : Duo n0 X w f g c a b) (hX : ∀ k, X k → k < w.heap.size) (h0 : n0 ≤ w.heap.size) :
    Calls Tryz.prog 27 #[.pointer (some ⟨f, 0, none⟩)] w fun e w' => e = .returned (countsV a.1.n) ∧ Duo n0 X w' f g c a b ∧ Kept (fun k => n0 ≤ k ∧ ¬ X k) w w' :=
  h.left hX h0 (fun F hF => (counts_on f c a.1 a.2.1 F a.2.2 w hF).mono (fun _ _ ⟨h1, h2, h3⟩ => ⟨h1, h2.mono (fun _ h => .inl h), h3⟩))

/-- What bytes that came in pieces have made of a flow. -/
structure Pcs (c : Cf) (L : List UInt8) (sp : Sp) (r : List UInt8) : Prop where
  is : feedF c 0 (L.length + 1) (Sp.new.open 0) L = (sp, r)
theorem Pcs.nil (c : Cf) : Pcs c [] (Sp.new.open 0) [] := ⟨rfl⟩
theorem Pcs.src {c : Cf} {L : List UInt8} {sp : Sp} {r : List UInt8} (h : Pcs c L sp r) : ∃ s, sp.src[0]? = some s ∧ s.opened = true ∧ s.broken = feedB c 0 (L.length + 1) (Sp.new.open 0) L := by
  have := feedB_src c 0 (L.length + 1) (Sp.new.open 0) L ⟨true, false, 0, false⟩ rfl rfl rfl
  rw [h.is] at this
  exact this
theorem Pcs.heft {c : Cf} {L : List UInt8} {sp : Sp} {r : List UInt8} (h : Pcs c L sp r) : 26 * sp.E.length + r.length ≤ L.length := by
  have h1 := feedF_heft c 0 (L.length + 1) (Sp.new.open 0) L
  rw [h.is] at h1
  have e : (Sp.new.open 0).E.length = 0 := rfl
  have h2 : 26 * sp.E.length + r.length ≤ 26 * (Sp.new.open 0).E.length + L.length := h1
  rw [e] at h2
  omega
theorem Pcs.rst {c : Cf} {L : List UInt8} {sp : Sp} {r : List UInt8} (h : Pcs c L sp r) (h0 : 0 ≤ c.late) : Rst c sp := by
  have := Rst.feed h0 0 (L.length + 1) (Sp.new.open 0) L ⟨true, false, 0, false⟩ (Rst.new c) rfl rfl rfl
  rw [h.is] at this
  exact this
/-- A piece more: the source was broken, or not. -/
theorem Pcs.broken {c : Cf} {L M : List UInt8} {sp : Sp} {r : List UInt8} (h : Pcs c L sp r) (hb : feedB c 0 (L.length + 1) (Sp.new.open 0) L = true) : Pcs c (L ++ M) sp r := by
  have := (feedF_app c 0 (L.length + 1) ((L ++ M).length + 1) (Sp.new.open 0) L M (by omega) (by omega)).1
  rw [hb, if_pos rfl, h.is] at this
  exact ⟨this⟩
theorem Pcs.more {c : Cf} {L M : List UInt8} {sp : Sp} {r : List UInt8} (h : Pcs c L sp r) (hb : feedB c 0 (L.length + 1) (Sp.new.open 0) L = false) : Pcs c (L ++ M) (feedF c 0 ((r ++ M).length + 1) sp (r ++ M)).1 (feedF c 0 ((r ++ M).length + 1) sp (r ++ M)).2 := by
  have h1 := feedF_app c 0 (L.length + 1) ((L ++ M).length + 1) (Sp.new.open 0) L M (by omega) (by omega)
  have h2 := h1.1
  rw [hb, if_neg (by decide), h.is] at h2
  have h3 := h1.2.2
  rw [h.is] at h3
  have h4 := (feedF_fuel c 0 ((L ++ M).length + 1) ((r ++ M).length + 1) sp (r ++ M) (by simp only [List.length_append] at *; omega) (by omega)).1
  exact ⟨h2.trans h4⟩
/-- The piece fed. -/
theorem Duo.feed {n0 : Nat} {X : Nat → Prop} {w : World} {f g : Nat} {c : Cf} {sp : Sp} {r : List UInt8} {T : Option Int} {b : FSt} (L M : List UInt8) (bv : Value) (h : Duo n0 X w f g c (sp, r :: List.replicate 7 [], T) b) (hp : Pcs c L sp r) (hX : ∀ k, X k → k < w.heap.size) (h0 : n0 ≤ w.heap.size) (hb : Row w 5 1 bv (M.map byteV)) (hl : (L ++ M).length < 90000000) :
    Calls Tryz.prog 20 #[.pointer (some ⟨f, 0, none⟩), .int .i64 0, bv] w fun e w' => e = .returned (.int .i64 0) ∧ ∃ sp' r', Pcs c (L ++ M) sp' r' ∧ Duo n0 X w' f g c (sp', r' :: List.replicate 7 [], T) b ∧ Kept (fun k => n0 ≤ k ∧ ¬ X k) w w' := by
  obtain ⟨s, hs, ho, hbr⟩ := hp.src
  have hf := hp.heft
  cases hB : feedB c 0 (L.length + 1) (Sp.new.open 0) L with
  | true =>
    rw [hB] at hbr
    refine (h.left (a' := (sp, r :: List.replicate 7 [], T)) hX h0 (P := fun e => e = .returned (.int .i64 0)) (fun F hF => (feed_broken_on f 0 c sp (r :: List.replicate 7 []) F T bv s w hF hs ho hbr).mono (fun _ _ ⟨h1, h2, h3⟩ => ⟨h1, h2.mono (fun _ h => .inl h), h3⟩))).mono ?_
    rintro e w' ⟨h1, h2, h3⟩
    exact ⟨h1, sp, r, hp.broken hB, h2, h3⟩
  | false =>
    rw [hB] at hbr
    rw [List.length_append] at hl
    refine (h.left (a' := ((feedF c 0 ((r ++ M).length + 1) sp (r ++ M)).1, (feedF c 0 ((r ++ M).length + 1) sp (r ++ M)).2 :: List.replicate 7 [], T)) hX h0 (P := fun e => e = .returned (.int .i64 0)) (fun F hF => feed_on f 0 c sp (r :: List.replicate 7 []) F T bv M r s w hF hs ho hbr rfl hb (by omega))).mono ?_
    rintro e w' ⟨h1, h2, h3⟩
    exact ⟨h1, _, _, hp.more hB, h2, h3⟩
end Go.Proofs.YtcfngdnmpogaoaaGreat
namespace Go.Proofs.YtcfngdnmpogaoaaGreat
open Go.RowKit

structure RawE where
  k : Int
  t : Int
  v : Int
  tag : Nat
def RawE.cells (e : RawE) : Array Value := #[.int .i64 e.k, .int .i64 e.t, .int .i64 e.v, .int .u32 (e.tag : Int)]
def RawE.ev (e : RawE) : Ev := evRaw e.k e.t e.v e.tag
structure RawE.Fits (e : RawE) : Prop where
  k : i64B e.k
  t : i64B e.t
  v : i64B e.v
  tag : e.tag < 4294967296
def EvsAt (w : World) (v : Value) (evs : List RawE) : Prop :=
  ∃ a cap, v = .slice a evs.length cap ∧ ∀ i (h : i < evs.length), ∃ b off, a = some ⟨b, off, none⟩ ∧ b < w.heap.size ∧ ∀ j, j < 4 → w.cell? ⟨b, off + (i * 4 + j), none⟩ = (evs[i]).cells[j]?
def IntsAt (w : World) (v : Value) (cs : List Int) : Prop :=
  ∃ a cap, v = .slice a cs.length cap ∧ ∀ i (h : i < cs.length), ∃ b off, a = some ⟨b, off, none⟩ ∧ b < w.heap.size ∧ w.cell? ⟨b, off + i, none⟩ = some (.int .i64 cs[i])

theorem RawE.Fits.evB {e : RawE} (h : e.Fits) : EvB e.ev := by
  have h1 := pickZ_lt e.k 5 (by omega)
  have h2 := pickZ_lt e.t 1000 (by omega)
  have hv := h.v
  unfold i64B at hv
  have hk : 1 ≤ e.ev.key.size ∧ e.ev.key.size ≤ 8 := by
    show 1 ≤ ((keys5[(pickZ e.k 5).toNat]?).getD ⟨#[97]⟩).size ∧ ((keys5[(pickZ e.k 5).toNat]?).getD ⟨#[97]⟩).size ≤ 8
    obtain ⟨m, hm, hm5⟩ : ∃ m : Nat, (pickZ e.k 5).toNat = m ∧ m < 5 := ⟨_, rfl, by omega⟩
    rw [hm]
    match m, hm5 with
    | 0, _ => decide
    | 1, _ => decide
    | 2, _ => decide
    | 3, _ => decide
    | 4, _ => decide
  refine ⟨hk.1, hk.2, ?_, ?_, hv.1, ?_, h.tag⟩
  · show _ ≤ pickZ e.t 1000 - 500; omega
  · show pickZ e.t 1000 - 500 < _; omega
  · show e.v < _; omega
theorem evB_len {e : Ev} (h : EvB e) : 1 ≤ (evB e).length ∧ (evB e).length ≤ 40 := by
  have h1 := frame_len (time := e.t) h.item
  obtain ⟨h2, h3⟩ := itemBody_len (time := e.t) h.item
  unfold evB
  omega
def evsB (l : List RawE) : List UInt8 := l.flatMap (fun e => evB e.ev)
theorem evsB_len : ∀ (l : List RawE), (∀ e ∈ l, e.Fits) → (evsB l).length ≤ 40 * l.length ∧ l.length ≤ (evsB l).length
  | [], _ => ⟨Nat.le_refl _, Nat.le_refl _⟩
  | e :: l, h => by
    have h1 := evsB_len l (fun x hx => h x (List.mem_cons_of_mem _ hx))
    have h2 := evB_len (h e List.mem_cons_self).evB
    unfold evsB at *
    rw [List.flatMap_cons, List.length_append, List.length_cons]
    omega
theorem evsB_take (l : List RawE) (k : Nat) (hk : k < l.length) : evsB (l.take (k + 1)) = evsB (l.take k) ++ evB (l[k]).ev := by
  unfold evsB
  rw [List.take_add_one, List.getElem?_eq_getElem hk, Option.toList_some, List.flatMap_append, List.flatMap_cons, List.flatMap_nil, List.append_nil]
/-- Events' bytes, then a mark's, then others: a mark is counted. -/
theorem feed_evs (c : Cf) (M : List UInt8) (l : List RawE) : ∀ (f : Nat) (sp : Sp), (∀ e ∈ l, e.Fits) → 0 ≤ sp.n.marks → sp.n.marks + M.length < 4611686018427387900 → l.length + 1 ≤ f → 1 ≤ (feedF c 0 f sp (evsB l ++ (markB 9999 ++ M))).1.n.marks := by
  induction l with
  | nil =>
    intro f sp _ h0 h1 h2
    obtain ⟨f, rfl⟩ : ∃ g, f = g + 1 := ⟨f - 1, by simp only [List.length_nil] at h2; omega⟩
    have e0 : evsB [] ++ (markB 9999 ++ M) = markB 9999 ++ M := rfl
    rw [e0, (feed_mk c 0 f sp 9999 (by decide) (by decide) M).1]
    have h2 := mark0_marks c sp 0 9999
    have h3 : wrap64 (sp.n.marks + 1) = sp.n.marks + 1 := by unfold wrap64; omega
    rw [h3] at h2
    have := feedF_marks c 0 f ((sp.mark0 0 9999).line c) M (by omega) (by omega)
    omega
  | cons e l ih =>
    intro f sp hf h0 h1 h2
    rw [List.length_cons] at h2
    obtain ⟨f, rfl⟩ : ∃ g, f = g + 1 := ⟨f - 1, by omega⟩
    have e1 : evsB (e :: l) ++ (markB 9999 ++ M) = evB e.ev ++ (evsB l ++ (markB 9999 ++ M)) := by
      unfold evsB
      rw [List.flatMap_cons, List.append_assoc]
    rw [e1, (feed_ev c 0 f sp e.ev (hf e List.mem_cons_self).evB _).1]
    have h3 : ((sp.event0 c 0 e.ev).line c).n.marks = sp.n.marks := by rw [line_marks, event0_marks]
    exact ih f _ (fun x hx => hf x (List.mem_cons_of_mem _ hx)) (by omega) (by omega) (by omega)

theorem rowPart {w : World} {e : TypeId} {g off n cap : Nat} {xs : List Value} (h : Row w e 1 (.slice (some ⟨g, off, none⟩) n cap) xs) (lo hi : Nat) (h1 : lo ≤ hi) (h2 : hi ≤ n) : Row w e 1 (.slice (some ⟨g, off + lo, none⟩) (hi - lo) (cap - lo)) ((xs.drop lo).take (hi - lo)) := by
  rcases h with ⟨h, _⟩ | ⟨g', off', n', cap', cur, hv, hg, hn, hc, hs, hl, hx⟩
  · cases h
  · cases hv
    refine .inr ⟨g, off + lo, hi - lo, cap - lo, cur, rfl, hg, by omega, by omega, by omega, ?_, fun j hj => ?_⟩
    · rw [List.length_take, List.length_drop]; omega
    · rw [List.getElem?_take, if_pos (by omega), List.getElem?_drop, ← hx (lo + j) (by omega), Nat.add_assoc]
theorem rowZero {w : World} {e : TypeId} {g off n cap : Nat} {xs : List Value} (h : Row w e 1 (.slice (some ⟨g, off, none⟩) n cap) xs) (m : Nat) (hm : m = 0) : Row w e 1 (.slice (some ⟨g, off, none⟩) m 0) [] := by
  subst hm
  rcases h with ⟨h, _⟩ | ⟨g', off', n', cap', cur, hv, hg, hn, hc, hs, hl, hx⟩
  · cases h
  · cases hv
    exact .inr ⟨g, off, 0, 0, cur, rfl, hg, Nat.le_refl _, by omega, by omega, rfl, fun j hj => by omega⟩
theorem takePart (L : List UInt8) (a b : Nat) (h : a ≤ b) : L.take a ++ (L.drop a).take (b - a) = L.take b := by
  rw [← List.take_add]
  congr 1
  omega
theorem Duo.start {n0 f g : Nat} {c : Cf} {sp : Sp} {rs : List (List UInt8)} {w1 w2 w3 : World} (h1 : FlowOn w2 f c sp rs (fun k => w1.heap.size ≤ k) none) (h2 : FlowOn w3 g c sp rs (fun k => w2.heap.size ≤ k) none) (hb : Below w2.heap.size w2 w3) (hn : n0 ≤ w1.heap.size) (hs : w1.heap.size ≤ w2.heap.size) : Duo n0 (fun _ => False) w3 f g c (sp, rs, none) (sp, rs, none) := by
  have h3 := hb.size
  refine ⟨_, _, h1.lt.below hb, h2.lt, ?_, ?_⟩
  · rintro k ⟨q1, q2⟩
    exact ⟨by omega, by omega, id, fun q => by have := q.1; omega⟩
  · rintro k ⟨q1, q2⟩
    exact ⟨by omega, q2, id⟩
end Go.Proofs.YtcfngdnmpogaoaaGreat
