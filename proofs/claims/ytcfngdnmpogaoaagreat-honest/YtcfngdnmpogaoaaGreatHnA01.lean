import Derived.Test.YtcfngdnmpogaoaaGreatHnS01
namespace Go.Proofs.YtcfngdnmpogaoaaGreat
open Go.RowKit

theorem raw_facts (x : RawE) (h : x.Fits) : -500 ≤ x.ev.t ∧ x.ev.t < 500 ∧ x.ev.fits ∧ x.ev.key ∈ keys5 := by
  have h1 := pickZ_lt x.t 1000 (by omega)
  have h2 := pickZ_lt x.k 5 (by omega)
  have ht : x.ev.t = pickZ x.t 1000 - 500 := rfl
  refine ⟨by omega, by omega, ⟨h.v.1, by have := h.v.2; show x.v ≤ _; omega, h.tag⟩, ?_⟩
  show (keys5[(pickZ x.k 5).toNat]?).getD ⟨#[97]⟩ ∈ keys5
  have h3 : (pickZ x.k 5).toNat < keys5.length := by show _ < 5; omega
  rw [List.getElem?_eq_getElem h3]
  exact List.getElem_mem h3

end Go.Proofs.YtcfngdnmpogaoaaGreat
namespace Go.Proofs.YtcfngdnmpogaoaaGreat
open Go.RowKit

def toldOf (sp : Sp) : Option Int := if sp.li then some sp.lt else none
theorem tookT_told (sp sp' : Sp) (h : sp.li = true → sp'.li = true) : tookT sp' (toldOf sp) = toldOf sp' := by
  unfold tookT toldOf
  cases h1 : sp'.li with
  | true => rfl
  | false =>
    cases h2 : sp.li with
    | true => rw [h h2] at h1; cases h1
    | false => rfl
theorem DoneOk.join {size slide lt lt' : Int} {li li' : Bool} {E : List Ev} {ls got : List Win} (h : DoneOk size slide none lt li E ls) (g : DoneOk size slide (if li then some lt else none) lt' li' E got) (hm : li = true → li' = true ∧ lt ≤ lt') : DoneOk size slide none lt' li' E (ls ++ got) := by
  refine ⟨List.pairwise_append.2 ⟨h.order, g.order, fun a ha b hb => ?_⟩, fun x => ?_⟩
  · obtain ⟨k, s, ⟨hl, -, hs, -⟩, rfl⟩ := (h.mem a).1 ha
    obtain ⟨k', s', ⟨-, -, -, hb'⟩, rfl⟩ := (g.mem b).1 hb
    rw [hl, if_pos rfl] at hb'
    have hb' : ¬ s' + size ≤ lt := of_decide_eq_false hb'
    rw [ltW_iff, (winF_key k s size E).2, (winF_key k' s' size E).2]
    exact .inl (by omega)
  · rw [List.mem_append, h.mem, g.mem]
    constructor
    · rintro (⟨k, s, ⟨hl, he, hs, ht⟩, rfl⟩ | ⟨k, s, ⟨hl, he, hs, -⟩, rfl⟩)
      · exact ⟨k, s, ⟨(hm hl).1, he, by have := (hm hl).2; omega, rfl⟩, rfl⟩
      · exact ⟨k, s, ⟨hl, he, hs, rfl⟩, rfl⟩
    · rintro ⟨k, s, ⟨hl, he, hs, -⟩, rfl⟩
      by_cases hold : li = true ∧ s + size ≤ lt
      · exact .inl ⟨k, s, ⟨hold.1, he, hold.2, rfl⟩, rfl⟩
      · refine .inr ⟨k, s, ⟨hl, he, hs, ?_⟩, rfl⟩
        cases hli : li with
        | false => rfl
        | true =>
          rw [if_pos rfl]
          exact decide_eq_false (fun hx => hold ⟨hli, hx⟩)
theorem lineF_up (late : Int) (src : List SrcS) (lt : Int) (li : Bool) (h : li = true) : (lineF late src lt li).2 = true ∧ lt ≤ (lineF late src lt li).1 := by
  unfold lineF
  split
  · refine ⟨rfl, ?_⟩
    simp only
    split
    · rename_i h2
      rcases h2 with h2 | h2
      · rw [h] at h2; cases h2
      · omega
    · exact Int.le_refl _
  · exact ⟨h, Int.le_refl _⟩

/-- What a step has made of a flow: an event more, or none. -/
structure Went (sp sp' : Sp) (e : Ev) (k : Int) : Prop where
  ev : (sp'.E = sp.E ++ [e] ∧ sp'.n.taken = sp.n.taken + 1 ∧ sp'.n.late = sp.n.late ∧ (sp.li = true → sp.lt ≤ e.t)) ∨ (sp'.E = sp.E ∧ sp'.n.taken = sp.n.taken ∧ (sp'.n.late = sp.n.late ∨ sp'.n.late = sp.n.late + 1 ∧ sp.li = true ∧ e.t < sp.lt))
  up : sp.li = true → sp'.li = true ∧ sp.lt ≤ sp'.lt
  sum : sp'.n.taken + sp'.n.late + sp'.n.full + sp'.n.marks = sp.n.taken + sp.n.late + sp.n.full + sp.n.marks + k
/-- What holds of a flow of three sources, whatever happens. -/
structure HOk (c : Cf) (sp : Sp) : Prop where
  rst : Rst c sp
  src : ∀ (i : Nat) s, sp.src[i]? = some s → s.broken = false ∧ (s.opened = false → s.is = false) ∧ (s.is = true → s.time ≤ 500) ∧ (3 ≤ i → s.opened = false)
  len : sp.src.length = 8
  E : ∀ e ∈ sp.E, -500 ≤ e.t ∧ e.t < 500 ∧ e.fits
  tk : sp.n.taken = (sp.E.length : Int)
  n0 : 0 ≤ sp.n.late ∧ 0 ≤ sp.n.full ∧ 0 ≤ sp.n.marks
  z : sp.n.range = 0 ∧ sp.n.broken = 0
theorem HOk.new (c : Cf) : HOk c (Sp.new.open 0) := by
  refine ⟨Rst.new c, fun i s hs => ?_, rfl, fun e he => (by cases he), rfl, ⟨by decide, by decide, by decide⟩, ⟨rfl, rfl⟩⟩
  match i, hs with
  | 0, hs => cases hs; exact ⟨rfl, fun h => (by cases h), fun h => (by cases h), fun h => (by omega)⟩
  | 1, hs => cases hs; exact ⟨rfl, fun _ => rfl, fun h => (by cases h), fun _ => rfl⟩
  | 2, hs => cases hs; exact ⟨rfl, fun _ => rfl, fun h => (by cases h), fun _ => rfl⟩
  | 3, hs => cases hs; exact ⟨rfl, fun _ => rfl, fun h => (by cases h), fun _ => rfl⟩
  | 4, hs => cases hs; exact ⟨rfl, fun _ => rfl, fun h => (by cases h), fun _ => rfl⟩
  | 5, hs => cases hs; exact ⟨rfl, fun _ => rfl, fun h => (by cases h), fun _ => rfl⟩
  | 6, hs => cases hs; exact ⟨rfl, fun _ => rfl, fun h => (by cases h), fun _ => rfl⟩
  | 7, hs => cases hs; exact ⟨rfl, fun _ => rfl, fun h => (by cases h), fun _ => rfl⟩
  | i + 8, hs =>
    have : (Sp.new.open 0).src.length = 8 := rfl
    rw [List.getElem?_eq_none (by omega)] at hs
    cases hs
theorem least_same (f : SrcS → SrcS) (hf : ∀ s, (f s).is = s.is ∧ (f s).time = s.time) : ∀ (l : List SrcS) (n : Nat) (m : Int × Bool), (l.modify n f).foldl leastStepS m = l.foldl leastStepS m
  | [], n, m => by cases n <;> rfl
  | a :: l, 0, m => by
    rw [List.modify_zero_cons, List.foldl_cons, List.foldl_cons]
    congr 1
    unfold leastStepS
    rw [(hf a).1, (hf a).2]
  | a :: l, n + 1, m => by
    rw [List.modify_succ_cons, List.foldl_cons, List.foldl_cons, least_same f hf l n]
theorem at_modify {l : List SrcS} {n i : Nat} {f : SrcS → SrcS} {s : SrcS} (h : (l.modify n f)[i]? = some s) : (n = i ∧ ∃ x, l[i]? = some x ∧ s = f x) ∨ (n ≠ i ∧ l[i]? = some s) := by
  rw [List.getElem?_modify] at h
  by_cases hn : n = i
  · left
    refine ⟨hn, ?_⟩
    cases hx : l[i]? with
    | none => rw [hx] at h; simp at h
    | some x => rw [hx] at h; simp only [hn, if_true, Option.map_some, Option.map_eq_map, Option.some.injEq] at h; exact ⟨x, rfl, h.symm⟩
  · right
    refine ⟨hn, ?_⟩
    cases hx : l[i]? with
    | none => rw [hx] at h; simp at h
    | some x => rw [hx] at h; simpa [hn] using h
theorem raised_facts (x : Int) (s : SrcS) : (raisedS x s).opened = s.opened ∧ (raisedS x s).broken = s.broken ∧ (raisedS x s).is = true ∧ ((raisedS x s).time = x ∨ (raisedS x s).time = s.time ∧ s.is = true) := by
  unfold raisedS
  split
  · exact ⟨rfl, rfl, rfl, .inl rfl⟩
  · rename_i h
    have : s.is = true := by
      cases hi : s.is with
      | true => rfl
      | false => exact absurd (.inl hi) h
    exact ⟨rfl, rfl, this, .inr ⟨rfl, this⟩⟩
theorem HOk.line {c : Cf} {sp sp1 : Sp} (h : HOk c sp) (h0 : 0 ≤ c.late) (hlt : sp1.lt = sp.lt) (hli : sp1.li = sp.li) (hE : sp1.E = sp.E ∨ (∃ e, sp1.E = sp.E ++ [e] ∧ (-500 ≤ e.t ∧ e.t < 500 ∧ e.fits) ∧ (leastS sp1.src).2 = true))
    (hsrc : ∀ (i : Nat) s, sp1.src[i]? = some s → s.broken = false ∧ (s.opened = false → s.is = false) ∧ (s.is = true → s.time ≤ 500) ∧ (3 ≤ i → s.opened = false)) (hlen : sp1.src.length = 8)
    (tk : sp1.n.taken = (sp1.E.length : Int)) (n0 : 0 ≤ sp1.n.late ∧ 0 ≤ sp1.n.full ∧ 0 ≤ sp1.n.marks) (z : sp1.n.range = 0 ∧ sp1.n.broken = 0) : HOk c (sp1.line c) := by
  refine ⟨Rst.line h0 (fun hn => ?_) (by rw [hlt]; exact h.rst.lt) (fun s hs hi => ?_), hsrc, hlen, fun e he => ?_, tk, n0, z⟩
  · rcases hE with hE | ⟨e, -, -, hl⟩
    · rw [hE] at hn; rw [hli]; exact .inl (h.rst.li hn)
    · exact .inr hl
  · obtain ⟨i, hi'⟩ := List.getElem?_of_mem hs
    have := (hsrc i s hi').2.2.1 hi
    omega
  · rw [line_E] at he
    rcases hE with hE | ⟨e', hE, hb, -⟩
    · rw [hE] at he; exact h.E e he
    · rw [hE] at he
      rcases List.mem_append.1 he with he | he
      · exact h.E e he
      · rw [List.mem_singleton.1 he]; exact hb
theorem HOk.raised {c : Cf} {sp : Sp} (h : HOk c sp) (n : Nat) (s : SrcS) (hs : sp.src[n]? = some s) (ho : s.opened = true) (x : Int) (hx : x ≤ 500) : ∀ (i : Nat) s, (sp.src.modify n (raisedS x))[i]? = some s → s.broken = false ∧ (s.opened = false → s.is = false) ∧ (s.is = true → s.time ≤ 500) ∧ (3 ≤ i → s.opened = false) := fun i s' hi => by
  rcases at_modify hi with ⟨rfl, y, hy, rfl⟩ | ⟨_, hy⟩
  · rw [hs] at hy
    obtain rfl := Option.some.inj hy
    obtain ⟨r1, r2, r3, r4⟩ := raised_facts x s
    obtain ⟨q1, q2, q3, q4⟩ := h.src n s hs
    refine ⟨r2.trans q1, fun hf => ?_, fun _ => ?_, fun h3 => r1.trans (q4 h3)⟩
    · rw [r1, ho] at hf; cases hf
    · rcases r4 with r4 | ⟨r4, r5⟩
      · omega
      · rw [r4]; exact q3 r5
  · exact h.src i s' hy
theorem HOk.open {c : Cf} {sp : Sp} (h : HOk c sp) (n : Nat) (hn : n < 3) (e : Ev) : HOk c (sp.open n) ∧ Went sp (sp.open n) e 0 := by
  have hl : leastS (sp.open n).src = leastS sp.src := least_same (fun x => ⟨true, x.broken, x.time, x.is⟩) (fun s => ⟨rfl, rfl⟩) sp.src n (0, false)
  refine ⟨⟨⟨?_, h.rst.li, h.rst.lt, fun s hs hi => ?_⟩, fun i s hi => ?_, by rw [← h.len]; exact List.length_modify .., h.E, h.tk, h.n0, h.z⟩, ⟨.inr ⟨rfl, rfl, .inl rfl⟩, fun hli => ⟨hli, Int.le_refl _⟩, by show _ = _ + 0; rw [Int.add_zero]; rfl⟩⟩
  · have hr := h.rst.rest
    have h1 : lineF c.late (sp.open n).src sp.lt sp.li = lineF c.late sp.src sp.lt sp.li := by unfold lineF; rw [hl]
    have h2 : (lineF c.late sp.src sp.lt sp.li).1 = sp.lt := congrArg Sp.lt hr
    have h3 : (lineF c.late sp.src sp.lt sp.li).2 = sp.li := congrArg Sp.li hr
    show ({ sp.open n with lt := (lineF c.late (sp.open n).src sp.lt sp.li).1, li := (lineF c.late (sp.open n).src sp.lt sp.li).2 } : Sp) = sp.open n
    rw [h1, h2, h3]
    rfl
  · rcases mem_modify hs with hs | ⟨a, ha, rfl⟩
    · exact h.rst.src s hs hi
    · exact h.rst.src a ha hi
  · rcases at_modify hi with ⟨rfl, y, hy, rfl⟩ | ⟨_, hy⟩
    · obtain ⟨q1, q2, q3, q4⟩ := h.src n y hy
      exact ⟨q1, fun hf => (by cases hf), q3, fun h3 => by omega⟩
    · exact h.src i s hy
theorem HOk.close {c : Cf} {sp : Sp} (h : HOk c sp) (h0 : 0 ≤ c.late) (n : Nat) (e : Ev) : HOk c ((sp.close0 n).line c) ∧ Went sp ((sp.close0 n).line c) e 0 := by
  refine ⟨h.line h0 rfl rfl (.inl rfl) (fun i s hi => ?_) (by rw [← h.len]; exact List.length_modify ..) h.tk h.n0 h.z, ⟨.inr ⟨rfl, rfl, .inl rfl⟩, fun hli => lineF_up c.late _ sp.lt sp.li hli, by show _ = _ + 0; rw [Int.add_zero]; rfl⟩⟩
  rcases at_modify hi with ⟨rfl, y, hy, rfl⟩ | ⟨_, hy⟩
  · exact ⟨rfl, fun _ => rfl, fun hf => (by cases hf), fun _ => rfl⟩
  · exact h.src i s hy
theorem Went.none (sp : Sp) (e : Ev) : Went sp sp e 0 := ⟨.inr ⟨rfl, rfl, .inl rfl⟩, fun h => ⟨h, Int.le_refl _⟩, by rw [Int.add_zero]⟩
theorem wrap64_succ (k : Int) (h0 : 0 ≤ k) (h : k ≤ 100000) : wrap64 (k + 1) = k + 1 := by unfold wrap64; omega
theorem HOk.mark {c : Cf} {sp : Sp} (h : HOk c sp) (h0 : 0 ≤ c.late) (n : Nat) (s : SrcS) (hs : sp.src[n]? = some s) (ho : s.opened = true) (e : Ev) (h1 : -500 ≤ e.t) (h2 : e.t < 500) (hm : sp.n.marks ≤ 100000) : HOk c ((sp.mark0 n e.t).line c) ∧ Went sp ((sp.mark0 n e.t).line c) e 1 := by
  have hc : clampT e.t = e.t := by unfold clampT; split <;> omega
  have hw := wrap64_succ sp.n.marks h.n0.2.2 hm
  have hs1 : (sp.mark0 n e.t).src = sp.src.modify n (raisedS e.t) := by unfold Sp.mark0; rw [hc]; rfl
  refine ⟨h.line h0 rfl rfl (.inl rfl) ?_ ?_ h.tk ⟨h.n0.1, h.n0.2.1, ?_⟩ h.z, ⟨.inr ⟨rfl, rfl, .inl rfl⟩, fun hli => lineF_up c.late _ sp.lt sp.li hli, ?_⟩⟩
  · rw [hs1]; exact h.raised n s hs ho e.t (by omega)
  · rw [hs1, List.length_modify]; exact h.len
  · show 0 ≤ wrap64 (sp.n.marks + 1)
    rw [hw]; have := h.n0.2.2; omega
  · show sp.n.taken + sp.n.late + sp.n.full + wrap64 (sp.n.marks + 1) = _
    rw [hw]; omega
theorem HOk.event {c : Cf} {sp : Sp} (h : HOk c sp) (h0 : 0 ≤ c.late) (n : Nat) (s : SrcS) (hs : sp.src[n]? = some s) (ho : s.opened = true) (e : Ev) (h1 : -500 ≤ e.t) (h2 : e.t < 500) (hf : e.fits) (hm : sp.n.taken ≤ 100000 ∧ sp.n.late ≤ 100000 ∧ sp.n.full ≤ 100000) : HOk c ((sp.event0 c n e).line c) ∧ Went sp ((sp.event0 c n e).line c) e 1 := by
  have ho1 : outB e = false := by unfold outB; simp only [Bool.or_eq_false_iff, decide_eq_false_iff_not]; omega
  have hw1 := wrap64_succ sp.n.taken (by rw [h.tk]; omega) hm.1
  have hw2 := wrap64_succ sp.n.late h.n0.1 hm.2.1
  have hw3 := wrap64_succ sp.n.full h.n0.2.1 hm.2.2
  unfold Sp.event0
  rw [ho1]
  simp only [Bool.false_eq_true, if_false]
  split
  · rename_i hla
    simp only [Bool.and_eq_true, decide_eq_true_eq] at hla
    refine ⟨h.line h0 rfl rfl (.inl rfl) (h.raised n s hs ho e.t (by omega)) (by rw [← h.len]; exact List.length_modify ..) h.tk ⟨?_, h.n0.2.1, h.n0.2.2⟩ h.z, ⟨.inr ⟨rfl, rfl, .inr ⟨hw2, hla⟩⟩, fun hli => lineF_up c.late _ sp.lt sp.li hli, ?_⟩⟩
    · show 0 ≤ wrap64 (sp.n.late + 1)
      rw [hw2]; have := h.n0.1; omega
    · show sp.n.taken + wrap64 (sp.n.late + 1) + sp.n.full + sp.n.marks = _
      rw [hw2]; omega
  · rename_i hla
    simp only [Bool.and_eq_true, decide_eq_true_eq, not_and] at hla
    split
    · refine ⟨h.line h0 rfl rfl (.inl rfl) h.src h.len h.tk ⟨h.n0.1, ?_, h.n0.2.2⟩ h.z, ⟨.inr ⟨rfl, rfl, .inl rfl⟩, fun hli => lineF_up c.late _ sp.lt sp.li hli, ?_⟩⟩
      · show 0 ≤ wrap64 (sp.n.full + 1)
        rw [hw3]; have := h.n0.2.1; omega
      · show sp.n.taken + sp.n.late + wrap64 (sp.n.full + 1) + sp.n.marks = _
        rw [hw3]; omega
    · refine ⟨h.line h0 rfl rfl (.inr ⟨e, rfl, ⟨h1, h2, hf⟩, raised_least e.t hs⟩) (h.raised n s hs ho e.t (by omega)) (by rw [← h.len]; exact List.length_modify ..) ?_ h.n0 h.z, ⟨.inl ⟨rfl, hw1, rfl, fun hli => by have := hla hli; omega⟩, fun hli => lineF_up c.late _ sp.lt sp.li hli, ?_⟩⟩
      · show wrap64 (sp.n.taken + 1) = ((sp.E ++ [e]).length : Int)
        rw [hw1, h.tk, List.length_append]; rfl
      · show wrap64 (sp.n.taken + 1) + sp.n.late + sp.n.full + sp.n.marks = _
        rw [hw1]; omega

/-- The end: the sources below i are open and late. -/
structure HFin (c : Cf) (E : List Ev) (sp : Sp) (i : Nat) : Prop where
  rst : Rst c sp
  E : sp.E = E
  len : sp.src.length = 8
  src : ∀ (j : Nat) s, sp.src[j]? = some s → s.broken = false ∧ (s.opened = false → s.is = false) ∧ (s.is = true → s.time ≤ 100000) ∧ (3 ≤ j → s.opened = false) ∧ (j < i → s.opened = true ∧ s.time = 100000)
  is : 1 ≤ i → (leastS sp.src).2 = true
theorem HOk.fin {c : Cf} {sp : Sp} (h : HOk c sp) : HFin c sp.E sp 0 := ⟨h.rst, rfl, h.len, fun j s hj => by
  obtain ⟨q1, q2, q3, q4⟩ := h.src j s hj
  exact ⟨q1, q2, fun hi => by have := q3 hi; omega, q4, fun h => by omega⟩, fun h => by omega⟩
theorem HFin.open {c : Cf} {E : List Ev} {sp : Sp} {i : Nat} (h : HFin c E sp i) (hi3 : i < 3) : HFin c E (sp.open i) i := by
  have hl : leastS (sp.open i).src = leastS sp.src := least_same (fun x => ⟨true, x.broken, x.time, x.is⟩) (fun s => ⟨rfl, rfl⟩) sp.src i (0, false)
  refine ⟨⟨?_, h.rst.li, h.rst.lt, fun s hs hi => ?_⟩, h.E, by rw [← h.len]; exact List.length_modify .., fun j s hj => ?_, fun h1 => (congrArg Prod.snd hl).trans (h.is h1)⟩
  · have hr := h.rst.rest
    have h1 : lineF c.late (sp.open i).src sp.lt sp.li = lineF c.late sp.src sp.lt sp.li := by unfold lineF; rw [hl]
    have h2 : (lineF c.late sp.src sp.lt sp.li).1 = sp.lt := congrArg Sp.lt hr
    have h3 : (lineF c.late sp.src sp.lt sp.li).2 = sp.li := congrArg Sp.li hr
    show ({ sp.open i with lt := (lineF c.late (sp.open i).src sp.lt sp.li).1, li := (lineF c.late (sp.open i).src sp.lt sp.li).2 } : Sp) = sp.open i
    rw [h1, h2, h3]
    rfl
  · rcases mem_modify hs with hs | ⟨a, ha, rfl⟩
    · exact h.rst.src s hs hi
    · exact h.rst.src a ha hi
  · rcases at_modify hj with ⟨rfl, y, hy, rfl⟩ | ⟨_, hy⟩
    · obtain ⟨q1, q2, q3, q4, q5⟩ := h.src _ y hy
      exact ⟨q1, fun hf => (by cases hf), q3, fun h3 => by omega, fun hlt => by omega⟩
    · exact h.src j s hy
theorem HFin.mark {c : Cf} {E : List Ev} {sp : Sp} {i : Nat} (h : HFin c E sp i) (h0 : 0 ≤ c.late) (s : SrcS) (hs : sp.src[i]? = some s) (ho : s.opened = true) : HFin c E ((sp.mark0 i 100000).line c) (i + 1) := by
  have hs1 : (sp.mark0 i 100000).src = sp.src.modify i (raisedS 100000) := rfl
  refine ⟨h.rst.mark h0 i s hs 100000, h.E, by rw [← h.len]; exact List.length_modify .., fun j s' hj => ?_, fun _ => raised_least 100000 hs⟩
  have hj : (sp.src.modify i (raisedS 100000))[j]? = some s' := hj
  rcases at_modify hj with ⟨rfl, y, hy, rfl⟩ | ⟨hn, hy⟩
  · rw [hs] at hy
    obtain rfl := Option.some.inj hy
    obtain ⟨r1, r2, r3, r4⟩ := raised_facts 100000 s
    obtain ⟨q1, q2, q3, q4, q5⟩ := h.src i s hs
    have ht : (raisedS 100000 s).time = 100000 := by
      unfold raisedS
      split
      · rfl
      · rename_i hn
        simp only [not_or, Bool.not_eq_false] at hn
        have := q3 hn.1
        omega
    exact ⟨r2.trans q1, fun hf => (by rw [r1, ho] at hf; cases hf), fun _ => by omega, fun h3 => r1.trans (q4 h3), fun _ => ⟨r1.trans ho, ht⟩⟩
  · obtain ⟨q1, q2, q3, q4, q5⟩ := h.src j s' hy
    exact ⟨q1, q2, q3, q4, fun hl => q5 (by omega)⟩
/-- The last line. -/
theorem HFin.line {c : Cf} {E : List Ev} {sp : Sp} (h : HFin c E sp 3) : sp.li = true ∧ 100000 - c.late ≤ sp.lt := by
  have hi := h.is (by omega)
  have hr := h.rst.rest
  have h2 : (lineF c.late sp.src sp.lt sp.li).1 = sp.lt := congrArg Sp.lt hr
  have h3 : (lineF c.late sp.src sp.lt sp.li).2 = sp.li := congrArg Sp.li hr
  unfold lineF at h2 h3
  rw [if_pos hi] at h2 h3
  refine ⟨h3.symm, ?_⟩
  obtain ⟨s, hs, q1, q2⟩ := least_of hi
  obtain ⟨j, hj⟩ := List.getElem?_of_mem hs
  obtain ⟨r1, r2, r3, r4, r5⟩ := h.src j s hj
  have hj3 : j < 3 := Nat.lt_of_not_le (fun h3 => by
    have := r2 (r4 h3)
    rw [this] at q1; cases q1)
  have := (r5 hj3).2
  simp only at h2
  split at h2
  · omega
  · rename_i hn
    simp only [not_or] at hn
    omega
end Go.Proofs.YtcfngdnmpogaoaaGreat
namespace Go.Proofs.YtcfngdnmpogaoaaGreat
open Go.RowKit

theorem HOk.at {c : Cf} {sp : Sp} (h : HOk c sp) (n : Nat) (hn : n < 8) : ∃ s, sp.src[n]? = some s := ⟨_, List.getElem?_eq_getElem (by rw [h.len]; exact hn)⟩
theorem Solo.doOpen {n0 : Nat} {X : Nat → Prop} {w : World} {f : Nat} {c : Cf} {sp : Sp} {T : Option Int} (n : Nat) (e : Ev) (h : Solo n0 X w f c sp T) (hX : ∀ k, X k → k < w.heap.size) (h0 : n0 ≤ w.heap.size) (hn : n < 3) (hH : HOk c sp) :
    Calls Tryz.prog 22 #[.pointer (some ⟨f, 0, none⟩), .int .i64 n] w fun en w' => ∃ cd sp', en = .returned (.int .i64 cd) ∧ Solo n0 X w' f c sp' T ∧ HOk c sp' ∧ Went sp sp' e 0 ∧ Kept (fun k => n0 ≤ k ∧ ¬ X k) w w' := by
  obtain ⟨s, hs⟩ := hH.at n (by omega)
  cases ho : s.opened with
  | true => exact (h.openNo n s hX h0 hs ho).mono (fun _ _ ⟨h1, h2, h3⟩ => ⟨_, _, h1, h2, hH, Went.none _ _, h3⟩)
  | false => exact (h.open n s hX h0 hs ho).mono (fun _ _ ⟨h1, h2, h3⟩ => ⟨_, _, h1, h2, (hH.open n hn e).1, (hH.open n hn e).2, h3⟩)
theorem Solo.doClose {n0 : Nat} {X : Nat → Prop} {w : World} {f : Nat} {c : Cf} {sp : Sp} {T : Option Int} (n : Nat) (e : Ev) (h : Solo n0 X w f c sp T) (hX : ∀ k, X k → k < w.heap.size) (h0 : n0 ≤ w.heap.size) (hn : n < 3) (hH : HOk c sp) (hl : 0 ≤ c.late) (hE : sp.E.length ≤ 100000) :
    Calls Tryz.prog 49 #[.pointer (some ⟨f, 0, none⟩), .int .i64 n] w fun en w' => ∃ cd sp', en = .returned (.int .i64 cd) ∧ Solo n0 X w' f c sp' T ∧ HOk c sp' ∧ Went sp sp' e 0 ∧ Kept (fun k => n0 ≤ k ∧ ¬ X k) w w' := by
  obtain ⟨s, hs⟩ := hH.at n (by omega)
  cases ho : s.opened with
  | false => exact (h.closeNo n s hX h0 hs ho).mono (fun _ _ ⟨h1, h2, h3⟩ => ⟨_, _, h1, h2, hH, Went.none _ _, h3⟩)
  | true => exact (h.close n s hX h0 hs ho (by omega) (by omega)).mono (fun _ _ ⟨h1, h2, h3⟩ => ⟨_, _, h1, h2, (hH.close hl n e).1, (hH.close hl n e).2, h3⟩)
theorem Solo.doMark {n0 : Nat} {X : Nat → Prop} {w : World} {f : Nat} {c : Cf} {sp : Sp} {T : Option Int} (n : Nat) (e : Ev) (bv : Value) (h : Solo n0 X w f c sp T) (hX : ∀ k, X k → k < w.heap.size) (h0 : n0 ≤ w.heap.size) (hn : n < 3) (hH : HOk c sp) (hl : 0 ≤ c.late) (hE : sp.E.length ≤ 100000) (h1 : -500 ≤ e.t) (h2 : e.t < 500) (hm : sp.n.marks ≤ 100000) (hb : Row w 5 1 bv ((markB e.t).map byteV)) :
    Calls Tryz.prog 20 #[.pointer (some ⟨f, 0, none⟩), .int .i64 n, bv] w fun en w' => ∃ cd sp', en = .returned (.int .i64 cd) ∧ Solo n0 X w' f c sp' T ∧ HOk c sp' ∧ Went sp sp' e (if (cd == 0) = true then 1 else 0) ∧ Kept (fun k => n0 ≤ k ∧ ¬ X k) w w' := by
  obtain ⟨s, hs⟩ := hH.at n (by omega)
  cases ho : s.opened with
  | false => exact (h.feedNo n bv s hX h0 hs ho).mono (fun _ _ ⟨h1, h2, h3⟩ => ⟨_, _, h1, h2, hH, Went.none _ _, h3⟩)
  | true => exact (h.mark n e.t bv s hX h0 (by omega) (by omega) hb hs ho (hH.src n s hs).1 (by omega) (by omega)).mono (fun _ _ ⟨q1, q2, q3⟩ => ⟨_, _, q1, q2, (hH.mark hl n s hs ho e h1 h2 hm).1, (hH.mark hl n s hs ho e h1 h2 hm).2, q3⟩)
theorem Solo.doEvent {n0 : Nat} {X : Nat → Prop} {w : World} {f : Nat} {c : Cf} {sp : Sp} {T : Option Int} (n : Nat) (e : Ev) (bv : Value) (h : Solo n0 X w f c sp T) (hX : ∀ k, X k → k < w.heap.size) (h0 : n0 ≤ w.heap.size) (hn : n < 3) (hH : HOk c sp) (hl : 0 ≤ c.late) (hE : sp.E.length ≤ 100000) (h1 : -500 ≤ e.t) (h2 : e.t < 500) (hf : e.fits) (hB : EvB e) (hm : sp.n.taken ≤ 100000 ∧ sp.n.late ≤ 100000 ∧ sp.n.full ≤ 100000) (hb : Row w 5 1 bv ((evB e).map byteV)) :
    Calls Tryz.prog 20 #[.pointer (some ⟨f, 0, none⟩), .int .i64 n, bv] w fun en w' => ∃ cd sp', en = .returned (.int .i64 cd) ∧ Solo n0 X w' f c sp' T ∧ HOk c sp' ∧ Went sp sp' e (if (cd == 0) = true then 1 else 0) ∧ Kept (fun k => n0 ≤ k ∧ ¬ X k) w w' := by
  obtain ⟨s, hs⟩ := hH.at n (by omega)
  cases ho : s.opened with
  | false => exact (h.feedNo n bv s hX h0 hs ho).mono (fun _ _ ⟨h1, h2, h3⟩ => ⟨_, _, h1, h2, hH, Went.none _ _, h3⟩)
  | true => exact (h.event n e bv s hX h0 hB hb hs ho (hH.src n s hs).1 (by omega) (by omega)).mono (fun _ _ ⟨q1, q2, q3⟩ => ⟨_, _, q1, q2, (hH.event hl n s hs ho e h1 h2 hf hm).1, (hH.event hl n s hs ho e h1 h2 hf hm).2, q3⟩)
theorem does_fin {n0 : Nat} {X : Nat → Prop} {w Wb Wc W9 : World} {f I R : Nat} {c : Cf} {sp' : Sp} {T : Option Int} (hwb : Below w.heap.size w Wb) (_hI : w.heap.size ≤ I) (hR : w.heap.size ≤ R) (hs : Solo n0 (fun k => X k ∨ k = I ∨ k = R) Wc f c sp' T) (hk : Kept (fun k => n0 ≤ k ∧ ¬ (X k ∨ k = I ∨ k = R)) Wb Wc) (h9 : Kept (fun k => k = R) Wc W9) : Solo n0 X W9 f c sp' T ∧ Kept (fun k => n0 ≤ k ∧ ¬ X k) w W9 := by
  refine ⟨(hs.kept h9 (fun k _ e => .inr (.inr (.inr e)))).wide (fun k hk => .inl (.inl hk)), ?_⟩
  refine ((Kept.ofBelow hwb (fun k => n0 ≤ k ∧ ¬ X k)).step hk (fun k _ h => ⟨h.1, fun hx => h.2 (.inl hx)⟩)).step h9 (fun k hk h => ?_)
  omega
theorem put5 {w : World} {g : Nat} {x0 x1 x2 x3 x4 y0 y1 y2 y3 y4 : Value} {t : TypeId} (h : w.heap[g]? = some (.cells #[x0, x1, x2, x3, x4] t (0, 0))) :
    (((((w.setCell ⟨g, 0, none⟩ y0).setCell ⟨g, 1, none⟩ y1).setCell ⟨g, 2, none⟩ y2).setCell ⟨g, 3, none⟩ y3).setCell ⟨g, 4, none⟩ y4).heap[g]? = some (.cells #[y0, y1, y2, y3, y4] t (0, 0)) := by
  simp [World.setCell, Array.getElem?_modify, h]
theorem keep5 (w : World) (g : Nat) (y0 y1 y2 y3 y4 : Value) : Kept (fun k => k = g) w (((((w.setCell ⟨g, 0, none⟩ y0).setCell ⟨g, 1, none⟩ y1).setCell ⟨g, 2, none⟩ y2).setCell ⟨g, 3, none⟩ y3).setCell ⟨g, 4, none⟩ y4) :=
  Kept.setCell (X := fun k => k = g) (Kept.setCell (X := fun k => k = g) (Kept.setCell (X := fun k => k = g) (Kept.setCell (X := fun k => k = g) (Kept.setCell (X := fun k => k = g) (Kept.refl _ w) ⟨g, 0, none⟩ y0 (fun _ => rfl)) ⟨g, 1, none⟩ y1 (fun _ => rfl)) ⟨g, 2, none⟩ y2 (fun _ => rfl)) ⟨g, 3, none⟩ y3 (fun _ => rfl)) ⟨g, 4, none⟩ y4 (fun _ => rfl)

set_option maxRecDepth 20000 in
set_option maxHeartbeats 6400000 in
theorem does_any (n0 : Nat) (X : Nat → Prop) (w : World) (f : Nat) (c : Cf) (sp : Sp) (T : Option Int) (hs : Solo n0 X w f c sp T) (hX : ∀ k, X k → k < w.heap.size) (h0 : n0 ≤ w.heap.size) (hH : HOk c sp) (hl : 0 ≤ c.late) (kind src : Int) (r : RawE) (hk : i64B kind) (hsr : i64B src) (hr : r.Fits)
    (hm : sp.n.taken ≤ 100000 ∧ sp.n.late ≤ 100000 ∧ sp.n.full ≤ 100000 ∧ sp.n.marks ≤ 100000) :
    Calls Tryz.prog 28 #[.pointer (some ⟨f, 0, none⟩), .agg #[.int .i64 kind, .int .i64 src, .int .i64 r.k, .int .i64 r.t, .int .i64 r.v, .int .u32 (r.tag : Int)]] w fun e w' => ∃ (sp' : Sp) (ok : Bool), e = .returned (.tuple #[evItemV r.ev, .bool ok]) ∧ Solo n0 X w' f c sp' T ∧ HOk c sp' ∧ Went sp sp' r.ev (if ok = true then 1 else 0) ∧ Kept (fun k => n0 ≤ k ∧ ¬ X k) w w' := by
  have hrf := raw_facts r hr
  have hEB := hr.evB
  have hEl : sp.E.length ≤ 100000 := by have := hH.tk; omega
  have HIt : Hid (∀ W, Calls Tryz.prog 23 #[.agg #[.int .i64 r.k, .int .i64 r.t, .int .i64 r.v, .int .u32 (r.tag : Int)]] W fun e w' => e = .returned (evItemV r.ev) ∧ Below W.heap.size W w') := fun W => item_any r.k r.t r.v r.tag W hr.k hr.t
  have hp3 := pickZ_lt src 3 (by omega)
  have hp9 := pickZ_lt kind 9 (by omega)
  have HP3 : Hid (∀ W, Calls Tryz.prog 17 #[.int .i64 src, .int .i64 3] W fun e w' => e = .returned (.int .i64 (pickZ src 3)) ∧ w' = W) := fun W => pick_any src 3 W hsr.1 (by have := hsr.2; omega) (by omega) (by omega)
  have HP9 : Hid (∀ W, Calls Tryz.prog 17 #[.int .i64 kind, .int .i64 9] W fun e w' => e = .returned (.int .i64 (pickZ kind 9)) ∧ w' = W) := fun W => pick_any kind 9 W hk.1 (by have := hk.2; omega) (by omega) (by omega)
  obtain ⟨n, hn⟩ : ∃ n : Nat, pickZ src 3 = (n : Int) := ⟨(pickZ src 3).toNat, by omega⟩
  rw [hn] at HP3 hp3
  have hn3 : n < 3 := by omega
  obtain ⟨P, hP⟩ : ∃ P : Int, pickZ kind 9 = P := ⟨_, rfl⟩
  rw [hP] at HP9 hp9
  have HOp : Hid (∀ (X : Nat → Prop) (W : World), Solo n0 X W f c sp T → (∀ k, X k → k < W.heap.size) → n0 ≤ W.heap.size → Calls Tryz.prog 22 #[.pointer (some ⟨f, 0, none⟩), .int .i64 n] W fun en w' => ∃ cd sp', en = .returned (.int .i64 cd) ∧ Solo n0 X w' f c sp' T ∧ HOk c sp' ∧ Went sp sp' r.ev 0 ∧ Kept (fun k => n0 ≤ k ∧ ¬ X k) W w') := fun X W q1 q2 q3 => q1.doOpen n r.ev q2 q3 hn3 hH
  have HCl : Hid (∀ (X : Nat → Prop) (W : World), Solo n0 X W f c sp T → (∀ k, X k → k < W.heap.size) → n0 ≤ W.heap.size → Calls Tryz.prog 49 #[.pointer (some ⟨f, 0, none⟩), .int .i64 n] W fun en w' => ∃ cd sp', en = .returned (.int .i64 cd) ∧ Solo n0 X w' f c sp' T ∧ HOk c sp' ∧ Went sp sp' r.ev 0 ∧ Kept (fun k => n0 ≤ k ∧ ¬ X k) W w') := fun X W q1 q2 q3 => q1.doClose n r.ev q2 q3 hn3 hH hl hEl
  have HMk : Hid (∀ (X : Nat → Prop) (W : World) (bv : Value), Solo n0 X W f c sp T → (∀ k, X k → k < W.heap.size) → n0 ≤ W.heap.size → Row W 5 1 bv ((markB r.ev.t).map byteV) → Calls Tryz.prog 20 #[.pointer (some ⟨f, 0, none⟩), .int .i64 n, bv] W fun en w' => ∃ cd sp', en = .returned (.int .i64 cd) ∧ Solo n0 X w' f c sp' T ∧ HOk c sp' ∧ Went sp sp' r.ev (if (cd == 0) = true then 1 else 0) ∧ Kept (fun k => n0 ≤ k ∧ ¬ X k) W w') := fun X W bv q1 q2 q3 q4 => q1.doMark n r.ev bv q2 q3 hn3 hH hl hEl hrf.1 hrf.2.1 hm.2.2.2 q4
  have HEv : Hid (∀ (X : Nat → Prop) (W : World) (bv : Value), Solo n0 X W f c sp T → (∀ k, X k → k < W.heap.size) → n0 ≤ W.heap.size → Row W 5 1 bv ((evB r.ev).map byteV) → Calls Tryz.prog 20 #[.pointer (some ⟨f, 0, none⟩), .int .i64 n, bv] W fun en w' => ∃ cd sp', en = .returned (.int .i64 cd) ∧ Solo n0 X w' f c sp' T ∧ HOk c sp' ∧ Went sp sp' r.ev (if (cd == 0) = true then 1 else 0) ∧ Kept (fun k => n0 ≤ k ∧ ¬ X k) W w') := fun X W bv q1 q2 q3 q4 => q1.doEvent n r.ev bv q2 q3 hn3 hH hl hEl hrf.1 hrf.2.1 hrf.2.2.1 hEB ⟨hm.1, hm.2.1, hm.2.2.1⟩ q4
  have HFr : Hid (∀ W, Calls Tryz.prog 15 #[evItemV r.ev] W fun e w' => ∃ v, e = .returned (.tuple #[v, .int .i64 0]) ∧ Row w' 5 1 v ((evB r.ev).map byteV) ∧ (∀ g, v.ownBlock = some g → W.heap.size ≤ g) ∧ Below W.heap.size W w') := fun W => frame_yes 1 r.ev.key r.ev.t r.ev.v r.ev.tag W (by have := hEB.k2; omega) hEB.item hEB.tg
  have HS : Hid (Solo n0 X w f c sp T) := hs
  have HX : Hid (∀ k, X k → k < w.heap.size) := hX
  clear hs hX hH hm hrf hEB hEl hk hsr hr hn hP
  generalize hEV : r.ev = EV at *
  clear hEV
  go_enter Tryz.func28, Tryz.ntmps28
  go_upto_region 1 with fail
  obtain ⟨hA, hR⟩ := two_new w (.cells #[.int .i64 kind, .int .i64 src, .int .i64 r.k, .int .i64 r.t, .int .i64 r.v, .int .u32 (r.tag : Int)] 65) (.cells #[.int .i64 0, .string ⟨#[]⟩, .int .i64 0, .int .i64 0, .int .u32 0] 28)
  have hb1 : Below w.heap.size w ((w.alloc (.cells #[.int .i64 kind, .int .i64 src, .int .i64 r.k, .int .i64 r.t, .int .i64 r.v, .int .u32 (r.tag : Int)] 65)).alloc (.cells #[.int .i64 0, .string ⟨#[]⟩, .int .i64 0, .int .i64 0, .int .u32 0] 28)) := ((Below.refl _ w).alloc (Nat.le_refl _) _).alloc (by simp) _
  obtain ⟨S, HSq⟩ : ∃ S, Hid (w.heap.size = S) := ⟨_, rfl⟩
  have HB1 : Hid (Below w.heap.size w ((w.alloc (.cells #[.int .i64 kind, .int .i64 src, .int .i64 r.k, .int .i64 r.t, .int .i64 r.v, .int .u32 (r.tag : Int)] 65)).alloc (.cells #[.int .i64 0, .string ⟨#[]⟩, .int .i64 0, .int .i64 0, .int .u32 0] 28))) := hb1
  rw [HSq.out] at hA hR ⊢
  clear hb1
  generalize (w.alloc (.cells #[.int .i64 kind, .int .i64 src, .int .i64 r.k, .int .i64 r.t, .int .i64 r.v, .int .u32 (r.tag : Int)] 65)).alloc (.cells #[.int .i64 0, .string ⟨#[]⟩, .int .i64 0, .int .i64 0, .int .u32 0] 28) = W1 at *
  have s0 : W1.cell? ⟨S, 0, none⟩ = some (.int .i64 kind) := blkCell hA rfl
  have s1 : W1.cell? ⟨S, 1, none⟩ = some (.int .i64 src) := blkCell hA rfl
  have s2 : W1.cell? ⟨S, 2, none⟩ = some (.int .i64 r.k) := blkCell hA rfl
  have s3 : W1.cell? ⟨S, 3, none⟩ = some (.int .i64 r.t) := blkCell hA rfl
  have s4 : W1.cell? ⟨S, 4, none⟩ = some (.int .i64 r.v) := blkCell hA rfl
  have s5 : W1.cell? ⟨S, 5, none⟩ = some (.int .u32 (r.tag : Int)) := blkCell hA rfl
  have HA : Hid (W1.heap[S]? = some (.cells #[.int .i64 kind, .int .i64 src, .int .i64 r.k, .int .i64 r.t, .int .i64 r.v, .int .u32 (r.tag : Int)] 65 (0, 0))) := hA
  have HR : Hid (W1.heap[S + 1]? = some (.cells #[.int .i64 0, .string ⟨#[]⟩, .int .i64 0, .int .i64 0, .int .u32 0] 28 (0, 0))) := hR
  clear hA hR
  go_wp2_with fail
  refine (HP3.out W1).mono ?_
  rintro e W' ⟨rfl, hV⟩
  subst hV
  go_wp2_with fail
  refine (HIt.out W').mono ?_
  rintro e Wa ⟨rfl, hba⟩
  unfold evItemV
  go_upto_region 3 with fail
  have hi1 := heap_alloc_new Wa (.cells #[.int .i64 1, .string EV.key, .int .i64 EV.t, .int .i64 EV.v, .int .u32 (EV.tag : Int)] 28)
  have hbb : Below W'.heap.size W' (Wa.alloc (.cells #[.int .i64 1, .string EV.key, .int .i64 EV.t, .int .i64 EV.v, .int .u32 (EV.tag : Int)] 28)) := hba.alloc hba.size _
  have hAb := blkBelow HA.out hbb
  have HRb : Hid ((Wa.alloc (.cells #[.int .i64 1, .string EV.key, .int .i64 EV.t, .int .i64 EV.v, .int .u32 (EV.tag : Int)] 28)).heap[S + 1]? = some (.cells #[.int .i64 0, .string ⟨#[]⟩, .int .i64 0, .int .i64 0, .int .u32 0] 28 (0, 0))) := blkBelow HR.out hbb
  have HBb : Hid (Below w.heap.size w (Wa.alloc (.cells #[.int .i64 1, .string EV.key, .int .i64 EV.t, .int .i64 EV.v, .int .u32 (EV.tag : Int)] 28))) := HB1.out.trans (hbb.mono HB1.out.size)
  have hIw : w.heap.size ≤ Wa.heap.size := by have := hba.size; have := HB1.out.size; omega
  have hIR : S + 1 < Wa.heap.size := by have := blkLt HR.out; have := hba.size; omega
  obtain ⟨I, HIq⟩ : ∃ I, Hid (Wa.heap.size = I) := ⟨_, rfl⟩
  rw [HIq.out] at hi1 hIw hIR ⊢
  have HIb : Hid ((Wa.alloc (.cells #[.int .i64 1, .string EV.key, .int .i64 EV.t, .int .i64 EV.v, .int .u32 (EV.tag : Int)] 28)).heap[I]? = some (.cells #[.int .i64 1, .string EV.key, .int .i64 EV.t, .int .i64 EV.v, .int .u32 (EV.tag : Int)] 28 (0, 0))) := hi1
  clear hba hbb s0 s1 s2 s3 s4 s5 HA HR HB1 hi1 HIt HP3
  generalize Wa.alloc (.cells #[.int .i64 1, .string EV.key, .int .i64 EV.t, .int .i64 EV.v, .int .u32 (EV.tag : Int)] 28) = Wb at *
  have s0 : Wb.cell? ⟨S, 0, none⟩ = some (.int .i64 kind) := blkCell hAb rfl
  clear hAb
  have hRw : w.heap.size ≤ S + 1 := by rw [HSq.out]; omega
  obtain ⟨R, HRq⟩ : ∃ R, Hid (S + 1 = R) := ⟨_, rfl⟩
  rw [HRq.out] at hRw hIR HRb ⊢
  have hwb := HBb.out.size
  have hIlt := blkLt HIb.out
  have HSb : Hid (Solo n0 (fun k => X k ∨ k = I ∨ k = R) Wb f c sp T) := (HS.out.wide (X' := fun k => X k ∨ k = I ∨ k = R) (fun k hk => by
    rcases hk with hk | hk | hk
    · exact .inl hk
    · exact .inr (by omega)
    · exact .inr (by omega))).below HBb.out
  have HXb : Hid (∀ k, (X k ∨ k = I ∨ k = R) → k < Wb.heap.size) := fun k hk => by
    rcases hk with hk | hk | hk
    · have := HX.out k hk; omega
    · omega
    · omega
  clear HS
  go_wp2_with fail
  refine (HP9.out Wb).mono ?_
  rintro e W' ⟨rfl, hV⟩
  subst hV
  obtain ⟨d0, d1, d2, d3, d4⟩ := itemAt HIb.out
  clear s0 HP9
  by_cases hP0 : P = 0
  · subst hP0
    go_wp2_with fail
    refine (HOp.out _ W' HSb.out HXb.out (by omega)).mono ?_
    rintro e Wc ⟨cd, sp', rfl, hsc, hhc, hwt, hkc⟩
    have HSc : Hid (Solo n0 (fun k => X k ∨ k = I ∨ k = R) Wc f c sp' T) := hsc
    have HHc : Hid (HOk c sp') := hhc
    have HWt : Hid (Went sp sp' EV 0) := hwt
    have HKc : Hid (Kept (fun k => n0 ≤ k ∧ ¬ (X k ∨ k = I ∨ k = R)) W' Wc) := hkc
    have HIc : Hid (Wc.heap[I]? = some (.cells #[.int .i64 1, .string EV.key, .int .i64 EV.t, .int .i64 EV.v, .int .u32 (EV.tag : Int)] 28 (0, 0))) := by show _ = _; rw [hkc.block I hIlt (fun e => e.2 (.inr (.inl rfl)))]; exact HIb.out
    have HRc : Hid (Wc.heap[R]? = some (.cells #[.int .i64 0, .string ⟨#[]⟩, .int .i64 0, .int .i64 0, .int .u32 0] 28 (0, 0))) := by show _ = _; rw [hkc.block R (by omega) (fun e => e.2 (.inr (.inr rfl)))]; exact HRb.out
    obtain ⟨d0, d1, d2, d3, d4⟩ := itemAt HIc.out
    obtain ⟨z0, z1, z2, z3, z4⟩ := itemAt HRc.out
    have zf := blkFrozen HRc.out
    clear hsc hhc hwt hkc
    have hIR' : ¬ I = R := by omega
    have hRI' : ¬ R = I := by omega
    go_wp2_with fail
    have h9 := put5 (y0 := .int .i64 1) (y1 := .string EV.key) (y2 := .int .i64 EV.t) (y3 := .int .i64 EV.v) (y4 := .int .u32 (EV.tag : Int)) HRc.out
    obtain ⟨hsf, hkf⟩ := does_fin HBb.out hIw hRw HSc.out HKc.out (keep5 Wc R (.int .i64 1) (.string EV.key) (.int .i64 EV.t) (.int .i64 EV.v) (.int .u32 (EV.tag : Int)))
    generalize (((((Wc.setCell ⟨R, 0, none⟩ (.int .i64 1)).setCell ⟨R, 1, none⟩ (.string EV.key)).setCell ⟨R, 2, none⟩ (.int .i64 EV.t)).setCell ⟨R, 3, none⟩ (.int .i64 EV.v)).setCell ⟨R, 4, none⟩ (.int .u32 (EV.tag : Int))) = W9 at *
    obtain ⟨y0, y1, y2, y3, y4⟩ := itemAt h9
    exact bodyPost_ret (v := .tuple #[evItemV EV, .bool false]) (by simp [results, Tryz.results28, go_sem, y0, y1, y2, y3, y4, evItemV]) rfl ⟨sp', false, rfl, hsf, HHc.out, HWt.out, hkf⟩
  · by_cases hP1 : P = 1
    · subst hP1
      go_wp2_with fail
      refine (HCl.out _ W' HSb.out HXb.out (by omega)).mono ?_
      rintro e Wc ⟨cd, sp', rfl, hsc, hhc, hwt, hkc⟩
      have HSc : Hid (Solo n0 (fun k => X k ∨ k = I ∨ k = R) Wc f c sp' T) := hsc
      have HHc : Hid (HOk c sp') := hhc
      have HWt : Hid (Went sp sp' EV 0) := hwt
      have HKc : Hid (Kept (fun k => n0 ≤ k ∧ ¬ (X k ∨ k = I ∨ k = R)) W' Wc) := hkc
      have HIc : Hid (Wc.heap[I]? = some (.cells #[.int .i64 1, .string EV.key, .int .i64 EV.t, .int .i64 EV.v, .int .u32 (EV.tag : Int)] 28 (0, 0))) := by show _ = _; rw [hkc.block I hIlt (fun e => e.2 (.inr (.inl rfl)))]; exact HIb.out
      have HRc : Hid (Wc.heap[R]? = some (.cells #[.int .i64 0, .string ⟨#[]⟩, .int .i64 0, .int .i64 0, .int .u32 0] 28 (0, 0))) := by show _ = _; rw [hkc.block R (by omega) (fun e => e.2 (.inr (.inr rfl)))]; exact HRb.out
      obtain ⟨d0, d1, d2, d3, d4⟩ := itemAt HIc.out
      obtain ⟨z0, z1, z2, z3, z4⟩ := itemAt HRc.out
      have zf := blkFrozen HRc.out
      clear hsc hhc hwt hkc
      have hIR' : ¬ I = R := by omega
      have hRI' : ¬ R = I := by omega
      go_wp2_with fail
      have h9 := put5 (y0 := .int .i64 1) (y1 := .string EV.key) (y2 := .int .i64 EV.t) (y3 := .int .i64 EV.v) (y4 := .int .u32 (EV.tag : Int)) HRc.out
      obtain ⟨hsf, hkf⟩ := does_fin HBb.out hIw hRw HSc.out HKc.out (keep5 Wc R (.int .i64 1) (.string EV.key) (.int .i64 EV.t) (.int .i64 EV.v) (.int .u32 (EV.tag : Int)))
      generalize (((((Wc.setCell ⟨R, 0, none⟩ (.int .i64 1)).setCell ⟨R, 1, none⟩ (.string EV.key)).setCell ⟨R, 2, none⟩ (.int .i64 EV.t)).setCell ⟨R, 3, none⟩ (.int .i64 EV.v)).setCell ⟨R, 4, none⟩ (.int .u32 (EV.tag : Int))) = W9 at *
      obtain ⟨y0, y1, y2, y3, y4⟩ := itemAt h9
      exact bodyPost_ret (v := .tuple #[evItemV EV, .bool false]) (by simp [results, Tryz.results28, go_sem, y0, y1, y2, y3, y4, evItemV]) rfl ⟨sp', false, rfl, hsf, HHc.out, HWt.out, hkf⟩
    · by_cases hP2 : P = 2
      · subst hP2
        go_upto_region 11 with fail
        have hwd : n0 ≤ W'.drew.heap.size := by show n0 ≤ W'.heap.size; omega
        have HSd : Hid (Solo n0 (fun k => X k ∨ k = I ∨ k = R) W'.drew f c sp T) := HSb.out.below ((Below.refl _ W').drew)
        have hIR' : ¬ I = R := by omega
        have hRI' : ¬ R = I := by omega
        go_region_held3 (fun W => W.cell? ⟨I, 0, none⟩ = some (.int .i64 1) ∧ W.cell? ⟨I, 1, none⟩ = some (.string EV.key) ∧ W.cell? ⟨I, 2, none⟩ = some (.int .i64 EV.t) ∧ W.cell? ⟨I, 3, none⟩ = some (.int .i64 EV.v) ∧ W.cell? ⟨I, 4, none⟩ = some (.int .u32 (EV.tag : Int))) (go_keep) (first
          | (go_at_call 21; refine (mark_any EV.t W'.drew).mono ?_; rintro en w1 ⟨bv, rfl, hrb, hgb, hbb⟩; have HRw : Hid (Row w1 5 1 bv ((markB EV.t).map byteV)) := hrb; have hI1 : w1.heap[I]? = some (.cells #[.int .i64 1, .string EV.key, .int .i64 EV.t, .int .i64 EV.v, .int .u32 (EV.tag : Int)] 28 (0, 0)) := (by rw [hbb.block I (by show I < W'.heap.size; omega)]; exact HIb.out); have hR1 : w1.heap[R]? = some (.cells #[.int .i64 0, .string ⟨#[]⟩, .int .i64 0, .int .i64 0, .int .u32 0] 28 (0, 0)) := (by rw [hbb.block R (by show R < W'.heap.size; omega)]; exact HRb.out); have HBm : Hid (Below w.heap.size w w1) := HBb.out.trans (((Below.refl _ W').drew.trans (hbb.mono (Nat.le_refl _))).mono hwb); have hw1 : W'.heap.size ≤ w1.heap.size := hbb.size; have HS1 : Hid (Solo n0 (fun k => X k ∨ k = I ∨ k = R) w1 f c sp T) := HSd.out.below hbb; have HX1 : Hid (∀ k, (X k ∨ k = I ∨ k = R) → k < w1.heap.size) := (fun k hk => by have := HXb.out k hk; omega); obtain ⟨k0, k1, k2, k3, k4⟩ := itemAt hI1; clear hrb hgb hbb)
          | (go_at_call 20; refine (HMk.out _ w1 bv HS1.out HX1.out (by omega) HRw.out).mono ?_; rintro en w2 ⟨cd, sp', rfl, hsc, hhc, hwt, hkc⟩; have HSc : Hid (Solo n0 (fun k => X k ∨ k = I ∨ k = R) w2 f c sp' T) := hsc; have HHc : Hid (HOk c sp') := hhc; have HWt : Hid (Went sp sp' EV (if (cd == 0) = true then 1 else 0)) := hwt; have HKc : Hid (Kept (fun k => n0 ≤ k ∧ ¬ (X k ∨ k = I ∨ k = R)) w1 w2) := hkc; have HIc : Hid (w2.heap[I]? = some (.cells #[.int .i64 1, .string EV.key, .int .i64 EV.t, .int .i64 EV.v, .int .u32 (EV.tag : Int)] 28 (0, 0))) := (by show _ = _; rw [hkc.block I (blkLt hI1) (fun e => e.2 (.inr (.inl rfl)))]; exact hI1); have HRc : Hid (w2.heap[R]? = some (.cells #[.int .i64 0, .string ⟨#[]⟩, .int .i64 0, .int .i64 0, .int .u32 0] 28 (0, 0))) := (by show _ = _; rw [hkc.block R (blkLt hR1) (fun e => e.2 (.inr (.inr rfl)))]; exact hR1); obtain ⟨q0, q1, q2, q3, q4⟩ := itemAt HIc.out; obtain ⟨z0, z1, z2, z3, z4⟩ := itemAt HRc.out; have zf := blkFrozen HRc.out; clear hsc hhc hwt hkc))
        go_wp2_with fail
        have h9 := put5 (y0 := .int .i64 1) (y1 := .string EV.key) (y2 := .int .i64 EV.t) (y3 := .int .i64 EV.v) (y4 := .int .u32 (EV.tag : Int)) HRc.out
        obtain ⟨hsf, hkf⟩ := does_fin HBm.out hIw hRw HSc.out HKc.out (keep5 w2 R (.int .i64 1) (.string EV.key) (.int .i64 EV.t) (.int .i64 EV.v) (.int .u32 (EV.tag : Int)))
        generalize (((((w2.setCell ⟨R, 0, none⟩ (.int .i64 1)).setCell ⟨R, 1, none⟩ (.string EV.key)).setCell ⟨R, 2, none⟩ (.int .i64 EV.t)).setCell ⟨R, 3, none⟩ (.int .i64 EV.v)).setCell ⟨R, 4, none⟩ (.int .u32 (EV.tag : Int))) = W9 at *
        obtain ⟨y0, y1, y2, y3, y4⟩ := itemAt h9
        exact bodyPost_ret (v := .tuple #[evItemV EV, .bool (cd == 0)]) (by simp [results, Tryz.results28, go_sem, y0, y1, y2, y3, y4, evItemV]) rfl ⟨sp', (cd == 0), rfl, hsf, HHc.out, HWt.out, hkf⟩
      · have e0 : (P == 0) = false := by simpa using hP0
        have e1 : (P == 1) = false := by simpa using hP1
        have e2 : (P == 2) = false := by simpa using hP2
        unfold evItemV at HFr
        go_wp2_with fail
        refine (HFr.out W').mono ?_
        rintro e Wd ⟨bv, rfl, hrb, hgb, hbb⟩
        have HIw : Hid (Wd.heap[I]? = some (.cells #[.int .i64 1, .string EV.key, .int .i64 EV.t, .int .i64 EV.v, .int .u32 (EV.tag : Int)] 28 (0, 0))) := blkBelow HIb.out hbb
        have HRw' : Hid (Wd.heap[R]? = some (.cells #[.int .i64 0, .string ⟨#[]⟩, .int .i64 0, .int .i64 0, .int .u32 0] 28 (0, 0))) := blkBelow HRb.out hbb
        have HBm0 : Hid (Below w.heap.size w Wd) := HBb.out.trans (hbb.mono hwb)
        have hwd := hbb.size
        have HSd : Hid (Solo n0 (fun k => X k ∨ k = I ∨ k = R) Wd f c sp T) := HSb.out.below hbb
        have HRx : Hid (Row Wd 5 1 bv ((evB EV).map byteV)) := hrb
        clear hrb hgb hbb d0 d1 d2 d3 d4
        obtain ⟨d0, d1, d2, d3, d4⟩ := itemAt HIw.out
        go_upto_region 13 with fail
        have hI1 : Wd.drew.heap[I]? = some (.cells #[.int .i64 1, .string EV.key, .int .i64 EV.t, .int .i64 EV.v, .int .u32 (EV.tag : Int)] 28 (0, 0)) := HIw.out
        have hR1 : Wd.drew.heap[R]? = some (.cells #[.int .i64 0, .string ⟨#[]⟩, .int .i64 0, .int .i64 0, .int .u32 0] 28 (0, 0)) := HRw'.out
        have HBm : Hid (Below w.heap.size w Wd.drew) := HBm0.out.drew
        have hwd1 : n0 ≤ Wd.drew.heap.size := by show n0 ≤ Wd.heap.size; omega
        have HS1 : Hid (Solo n0 (fun k => X k ∨ k = I ∨ k = R) Wd.drew f c sp T) := HSd.out.below ((Below.refl _ Wd).drew)
        have HX1 : Hid (∀ k, (X k ∨ k = I ∨ k = R) → k < Wd.drew.heap.size) := fun k hk => by have := HXb.out k hk; show k < Wd.heap.size; omega
        have HRw : Hid (Row Wd.drew 5 1 bv ((evB EV).map byteV)) := HRx.out
        have hIR' : ¬ I = R := by omega
        have hRI' : ¬ R = I := by omega
        go_region_held3 (fun W => W.cell? ⟨I, 0, none⟩ = some (.int .i64 1) ∧ W.cell? ⟨I, 1, none⟩ = some (.string EV.key) ∧ W.cell? ⟨I, 2, none⟩ = some (.int .i64 EV.t) ∧ W.cell? ⟨I, 3, none⟩ = some (.int .i64 EV.v) ∧ W.cell? ⟨I, 4, none⟩ = some (.int .u32 (EV.tag : Int))) (go_keep) (first | (go_at_call 20; refine (HEv.out _ Wd.drew bv HS1.out HX1.out hwd1 HRw.out).mono ?_; rintro en w2 ⟨cd, sp', rfl, hsc, hhc, hwt, hkc⟩; have HSc : Hid (Solo n0 (fun k => X k ∨ k = I ∨ k = R) w2 f c sp' T) := hsc; have HHc : Hid (HOk c sp') := hhc; have HWt : Hid (Went sp sp' EV (if (cd == 0) = true then 1 else 0)) := hwt; have HKc : Hid (Kept (fun k => n0 ≤ k ∧ ¬ (X k ∨ k = I ∨ k = R)) Wd.drew w2) := hkc; have HIc : Hid (w2.heap[I]? = some (.cells #[.int .i64 1, .string EV.key, .int .i64 EV.t, .int .i64 EV.v, .int .u32 (EV.tag : Int)] 28 (0, 0))) := (by show _ = _; rw [hkc.block I (blkLt hI1) (fun e => e.2 (.inr (.inl rfl)))]; exact hI1); have HRc : Hid (w2.heap[R]? = some (.cells #[.int .i64 0, .string ⟨#[]⟩, .int .i64 0, .int .i64 0, .int .u32 0] 28 (0, 0))) := (by show _ = _; rw [hkc.block R (blkLt hR1) (fun e => e.2 (.inr (.inr rfl)))]; exact hR1); obtain ⟨q0, q1, q2, q3, q4⟩ := itemAt HIc.out; obtain ⟨z0, z1, z2, z3, z4⟩ := itemAt HRc.out; have zf := blkFrozen HRc.out; clear hsc hhc hwt hkc))
        go_wp2_with fail
        have h9 := put5 (y0 := .int .i64 1) (y1 := .string EV.key) (y2 := .int .i64 EV.t) (y3 := .int .i64 EV.v) (y4 := .int .u32 (EV.tag : Int)) HRc.out
        obtain ⟨hsf, hkf⟩ := does_fin HBm.out hIw hRw HSc.out HKc.out (keep5 w2 R (.int .i64 1) (.string EV.key) (.int .i64 EV.t) (.int .i64 EV.v) (.int .u32 (EV.tag : Int)))
        generalize (((((w2.setCell ⟨R, 0, none⟩ (.int .i64 1)).setCell ⟨R, 1, none⟩ (.string EV.key)).setCell ⟨R, 2, none⟩ (.int .i64 EV.t)).setCell ⟨R, 3, none⟩ (.int .i64 EV.v)).setCell ⟨R, 4, none⟩ (.int .u32 (EV.tag : Int))) = W9 at *
        obtain ⟨y0, y1, y2, y3, y4⟩ := itemAt h9
        exact bodyPost_ret (v := .tuple #[evItemV EV, .bool (cd == 0)]) (by simp [results, Tryz.results28, go_sem, y0, y1, y2, y3, y4, evItemV]) rfl ⟨sp', (cd == 0), rfl, hsf, HHc.out, HWt.out, hkf⟩
end Go.Proofs.YtcfngdnmpogaoaaGreat
namespace Go.Proofs.YtcfngdnmpogaoaaGreat
open Go.RowKit

theorem WinsAt.append {w w' : World} {lv lv' gv : Value} {ls ys : List WinX} (hl : WinsAt w lv ls 0) (hy : WinsAt w gv ys 0) (ha : App w w' 70 7 lv lv' (ls.flatMap wxCells) (ys.flatMap wxCells)) (h0 : ys.length = 0 → lv' = lv) : WinsAt w' lv' (ls ++ ys) 0 := by
  have htag : ∀ x ∈ ls ++ ys, Row w 26 1 x.tv (x.w.tags.map tagV) := fun x hx => by
    rcases List.mem_append.1 hx with hx | hx
    · exact (hl.tags x hx).1
    · exact (hy.tags x hx).1
  refine ⟨?_, fun x hx => ⟨?_, fun _ _ => Nat.zero_le _⟩, fun _ _ => Nat.zero_le _, fun e => ?_⟩
  · have := ha.row
    rw [← List.flatMap_append] at this
    exact this
  · exact (htag x hx).kept (Kept.ofGrown ha.grown) (fun k hk e => (htag x hx).apart hl.row (by decide) hk e)
  · obtain ⟨e1, e2⟩ := List.append_eq_nil_iff.1 e
    rw [h0 (by rw [e2]; rfl)]
    exact hl.void e1
def cfgC (c : Cf) : Obj := .cells #[.int .i64 c.size, .int .i64 c.slide, .int .i64 c.late, .int .i64 c.keys] 42 (0, 0)
/-- The flow, the events taken (tv), the windows told (lv), the configuration's box C, other boxes X. -/
structure HSt (w wr : World) (f C : Nat) (c : Cf) (sp : Sp) (T : Option Int) (E : List Ev) (tv lv : Value) (ls : List WinX) (X : Nat → Prop) : Prop where
  solo : Solo w.heap.size (fun j => j = C ∨ tv.ownBlock = some j ∨ OutB lv ls j ∨ X j) wr f c sp T
  row : Row wr 28 5 tv (E.flatMap evCells)
  wins : WinsAt wr lv ls 0
  cfg : wr.heap[C]? = some (cfgC c)
  below : Below w.heap.size w wr
  tvb : ∀ j, tv.ownBlock = some j → w.heap.size ≤ j
  outb : ∀ j, OutB lv ls j → w.heap.size ≤ j
  xb : ∀ j, X j → j < wr.heap.size
theorem HSt.lt {w wr : World} {f C : Nat} {c : Cf} {sp : Sp} {T : Option Int} {E : List Ev} {tv lv : Value} {ls : List WinX} {X : Nat → Prop} (h : HSt w wr f C c sp T E tv lv ls X) : ∀ j, (j = C ∨ tv.ownBlock = some j ∨ OutB lv ls j ∨ X j) → j < wr.heap.size := fun j hj => by
  rcases hj with hj | hj | (hj | ⟨x, hx, hj⟩) | hj
  · rw [hj]; exact (Array.getElem?_eq_some_iff.1 h.cfg).1
  · exact (h.row.blk_lt hj).1
  · exact (h.wins.row.blk_lt hj).1
  · exact ((h.wins.tags x hx).1.blk_lt hj).1
  · exact h.xb j hj
theorem HSt.after {w wr w' : World} {f C : Nat} {c : Cf} {sp sp' : Sp} {T T' : Option Int} {E : List Ev} {tv lv : Value} {ls : List WinX} {X : Nat → Prop} (h : HSt w wr f C c sp T E tv lv ls X) (hs : Solo w.heap.size (fun j => j = C ∨ tv.ownBlock = some j ∨ OutB lv ls j ∨ X j) w' f c sp' T') (hk : Kept (fun j => w.heap.size ≤ j ∧ ¬ (j = C ∨ tv.ownBlock = some j ∨ OutB lv ls j ∨ X j)) wr w') :
    HSt w w' f C c sp' T' E tv lv ls X ∧ ∀ j, X j → w'.heap[j]? = wr.heap[j]? := by
  have hsz := hk.size
  refine ⟨⟨hs, h.row.kept hk (fun j hj e => e.2 (.inr (.inl hj))), h.wins.kept hk (fun j hj e => e.2 (.inr (.inr (.inl (.inl hj))))) (fun x hx j hj e => e.2 (.inr (.inr (.inl (.inr ⟨x, hx, hj⟩))))), ?_, h.below.trans (hk.toBelow h.below.size (fun j hj e => by omega)), h.tvb, h.outb, fun j hj => by have := h.xb j hj; omega⟩, fun j hj => ?_⟩
  · rw [hk.block C (h.lt C (.inl rfl)) (fun e => e.2 (.inl rfl))]; exact h.cfg
  · exact hk.block j (h.xb j hj) (fun e => e.2 (.inr (.inr (.inr hj))))
theorem HSt.mono {w wr w' : World} {f C : Nat} {c : Cf} {sp : Sp} {T : Option Int} {E : List Ev} {tv lv : Value} {ls : List WinX} {X X' : Nat → Prop} (h : HSt w wr f C c sp T E tv lv ls X) (hb : Below wr.heap.size wr w') (hX : ∀ j, X' j → X j ∨ wr.heap.size ≤ j ∧ j < w'.heap.size) : HSt w w' f C c sp T E tv lv ls X' := by
  have hsz := hb.size
  refine ⟨(h.solo.wide (fun j hj => ?_)).below hb, h.row.below hb (fun j hj => (h.row.blk_lt hj).1), h.wins.below hb, ?_, h.below.trans (hb.mono h.below.size), h.tvb, h.outb, fun j hj => ?_⟩
  · rcases hj with hj | hj | hj | hj
    · exact .inl (.inl hj)
    · exact .inl (.inr (.inl hj))
    · exact .inl (.inr (.inr (.inl hj)))
    · rcases hX j hj with h1 | h1
      · exact .inl (.inr (.inr (.inr h1)))
      · exact .inr h1.1
  · rw [hb.block C (h.lt C (.inl rfl))]; exact h.cfg
  · rcases hX j hj with h1 | h1
    · have := h.xb j h1; omega
    · exact h1.2
/-- A box more. -/
theorem HSt.box {w wr : World} {f C : Nat} {c : Cf} {sp : Sp} {T : Option Int} {E : List Ev} {tv lv : Value} {ls : List WinX} {X : Nat → Prop} (h : HSt w wr f C c sp T E tv lv ls X) (o : Obj) : HSt w (wr.alloc o) f C c sp T E tv lv ls (fun j => X j ∨ j = wr.heap.size) :=
  h.mono ((Below.refl _ wr).alloc (Nat.le_refl _) o) (fun j hj => hj.imp id (fun e => ⟨by omega, by rw [e]; simp⟩))
/-- An event more. -/
theorem HSt.took {w wr w' : World} {f C : Nat} {c : Cf} {sp : Sp} {T : Option Int} {E : List Ev} {e : Ev} {tv tv' lv : Value} {ls : List WinX} {X : Nat → Prop} (h : HSt w wr f C c sp T E tv lv ls X) (ha : App wr w' 28 5 tv tv' (E.flatMap evCells) (evCells e)) (hXt : ∀ j, X j → tv.ownBlock ≠ some j) :
    HSt w w' f C c sp T (E ++ [e]) tv' lv ls X ∧ ∀ j, X j → w'.heap[j]? = wr.heap[j]? := by
  have hkp : Kept (fun j => tv.ownBlock = some j) wr w' := Kept.ofGrown ha.grown
  have hsz := hkp.size
  have hV : ∀ j, tv'.ownBlock = some j → tv.ownBlock = some j ∨ wr.heap.size ≤ j := fun j hj => by
    rcases ha.step with ⟨h5, -⟩ | ⟨h5, -⟩
    · exact .inl (by rw [← h5]; exact hj)
    · rw [h5] at hj
      exact .inr (by cases hj; omega)
  have htC : tv.ownBlock ≠ some C := h.row.ne_block h.cfg (by decide)
  have hto : ∀ j, OutB lv ls j → tv.ownBlock ≠ some j := fun j hj e => by
    rcases hj with hj | ⟨x, hx, hj⟩
    · exact h.wins.row.apart h.row (by decide) hj e
    · exact (h.wins.tags x hx).1.apart h.row (by decide) hj e
  refine ⟨⟨?_, ?_, h.wins.kept hkp (fun j hj e => hto j (.inl hj) e) (fun x hx j hj e => hto j (.inr ⟨x, hx, hj⟩) e), ?_, h.below.trans (hkp.toBelow h.below.size (fun j hj e => by have := h.tvb j e; omega)), fun j hj => ?_, h.outb, fun j hj => by have := h.xb j hj; omega⟩, fun j hj => hkp.block j (h.xb j hj) (hXt j hj)⟩
  · refine ((h.solo.wide (X' := fun j => (j = C ∨ tv.ownBlock = some j ∨ OutB lv ls j ∨ X j) ∨ tv'.ownBlock = some j) (fun j hj => ?_)).kept hkp (fun j _ hj => .inr (.inl (.inr (.inl hj))))).wide (fun j hj => .inl ?_)
    · rcases hj with hj | hj
      · exact .inl hj
      · rcases hV j hj with h5 | h5
        · exact .inl (.inr (.inl h5))
        · exact .inr h5
    · rcases hj with hj | hj | hj | hj
      · exact .inl (.inl hj)
      · exact .inr hj
      · exact .inl (.inr (.inr (.inl hj)))
      · exact .inl (.inr (.inr (.inr hj)))
  · have h5 := ha.row
    rw [List.flatMap_append]
    simpa using h5
  · rw [hkp.block C (h.lt C (.inl rfl)) htC]; exact h.cfg
  · rcases hV j hj with h5 | h5
    · exact h.tvb j h5
    · have := h.below.size; omega
/-- Windows more. -/
theorem HSt.told {w wr w' : World} {f C : Nat} {c : Cf} {sp : Sp} {T : Option Int} {E : List Ev} {tv lv lv' gv : Value} {ls ys : List WinX} (h : HSt w wr f C c sp T E tv lv ls (fun j => OutB gv ys j)) (hy : WinsAt wr gv ys 0) (hg : ∀ j, OutB gv ys j → w.heap.size ≤ j) (ha : App wr w' 70 7 lv lv' (ls.flatMap wxCells) (ys.flatMap wxCells)) (h0 : ys.length = 0 → lv' = lv) :
    HSt w w' f C c sp T E tv lv' (ls ++ ys) (fun _ => False) := by
  have hkp : Kept (fun j => lv.ownBlock = some j) wr w' := Kept.ofGrown ha.grown
  have hsz := hkp.size
  have hV : ∀ j, OutB lv' (ls ++ ys) j → (OutB lv ls j ∨ OutB gv ys j) ∨ wr.heap.size ≤ j := fun j hj => by
    rcases hj with hj | ⟨x, hx, hj⟩
    · rcases ha.step with ⟨h5, -⟩ | ⟨h5, -⟩
      · exact .inl (.inl (.inl (by rw [← h5]; exact hj)))
      · rw [h5] at hj
        exact .inr (by cases hj; omega)
    · rcases List.mem_append.1 hx with hx | hx
      · exact .inl (.inl (.inr ⟨x, hx, hj⟩))
      · exact .inl (.inr (.inr ⟨x, hx, hj⟩))
  have htC : lv.ownBlock ≠ some C := h.wins.row.ne_block h.cfg (by decide)
  have htt : ∀ j, tv.ownBlock = some j → lv.ownBlock ≠ some j := fun j hj e => h.row.apart h.wins.row (by decide) hj e
  refine ⟨?_, h.row.kept hkp (fun j hj e => htt j hj e), h.wins.append hy ha h0, ?_, h.below.trans (hkp.toBelow h.below.size (fun j hj e => by have := h.outb j (.inl e); omega)), h.tvb, fun j hj => ?_, fun j hj => hj.elim⟩
  · refine ((h.solo.wide (X' := fun j => (j = C ∨ tv.ownBlock = some j ∨ OutB lv ls j ∨ OutB gv ys j) ∨ OutB lv' (ls ++ ys) j) (fun j hj => ?_)).kept hkp (fun j _ hj => .inr (.inl (.inr (.inr (.inl (.inl hj))))))).wide (fun j hj => .inl ?_)
    · rcases hj with hj | hj
      · exact .inl hj
      · rcases hV j hj with (h5 | h5) | h5
        · exact .inl (.inr (.inr (.inl h5)))
        · exact .inl (.inr (.inr (.inr h5)))
        · exact .inr h5
    · rcases hj with hj | hj | hj | hj
      · exact .inl (.inl hj)
      · exact .inl (.inr (.inl hj))
      · exact .inr hj
      · exact hj.elim
  · rw [hkp.block C (h.lt C (.inl rfl)) htC]; exact h.cfg
  · rcases hV j hj with (h5 | h5) | h5
    · exact h.outb j h5
    · exact hg j h5
    · have := h.below.size; omega
/-- Windows taken. -/
theorem HSt.taken {w wr w' : World} {f C : Nat} {c : Cf} {sp : Sp} {T T' : Option Int} {E : List Ev} {tv lv ov : Value} {ls ys : List WinX} {X : Nat → Prop} (h : HSt w wr f C c sp T E tv lv ls X) (ho : ∀ j, OutB ov ys j → wr.heap.size ≤ j ∧ j < w'.heap.size) (hs : Solo w.heap.size (fun j => (j = C ∨ tv.ownBlock = some j ∨ OutB lv ls j ∨ X j) ∨ OutB ov ys j) w' f c sp T') (hk : Kept (fun j => w.heap.size ≤ j ∧ ¬ (j = C ∨ tv.ownBlock = some j ∨ OutB lv ls j ∨ X j)) wr w') :
    HSt w w' f C c sp T' E tv lv ls (fun j => OutB ov ys j) := by
  have h1 := (h.after (hs.wide (fun j hj => .inl (.inl hj))) hk).1
  refine ⟨hs.wide (fun j hj => .inl ?_), h1.row, h1.wins, h1.cfg, h1.below, h1.tvb, h1.outb, fun j hj => (ho j hj).2⟩
  rcases hj with hj | hj | hj | hj
  · exact .inl (.inl hj)
  · exact .inl (.inr (.inl hj))
  · exact .inl (.inr (.inr (.inl hj)))
  · exact .inr hj
/-- How many windows there are at most. -/
theorem WinSet.few {size slide : Int} {E : List Ev} {P : ByteArray → Int → Prop} {ds : List Win} (h : WinSet size E P ds) (hP : ∀ k s, P k s → winQ size slide E k s) : ds.length ≤ E.length * size.toNat := by
  have h1 := len_le_sum (fun x => (evsIn size E x).length) ds (fun x hx => by
    obtain ⟨key, s, hp, rfl⟩ := (h.mem x).1 hx
    obtain ⟨e, he, rfl, _, q1, q2⟩ := hP key s hp
    refine List.length_pos_of_mem (a := e) (List.mem_filter.2 ⟨he, ?_⟩)
    rw [(winF_key e.key s size E).1, (winF_key e.key s size E).2]
    exact (inWin_iff _ _ _ _).2 ⟨rfl, q1, q2⟩)
  have h2 := sum_swap (fun (x : Win) (e : Ev) => inWin x.key x.start size e) ds E
  have h3 := sum_le (fun e => (ds.filter fun x => inWin x.key x.start size e).length) size.toNat E (fun e _ => by
    have hl : (ds.filter fun x => inWin x.key x.start size e).length = ((ds.filter fun x => inWin x.key x.start size e).map Win.start).length := by rw [List.length_map]
    have hr : size.toNat = ((List.range size.toNat).map fun i : Nat => e.t - size + 1 + (i : Int)).length := by rw [List.length_map, List.length_range]
    show (ds.filter fun x => inWin x.key x.start size e).length ≤ size.toNat
    rw [hl]
    conv => rhs; rw [hr]
    refine nodup_len _ _ ?_ (fun s hs => ?_)
    · have hp : ((ds.filter fun x => inWin x.key x.start size e).map Win.start).Pairwise (· < ·) := by
        rw [List.pairwise_map]
        refine List.Pairwise.imp_of_mem ?_ (List.Pairwise.filter (fun x => inWin x.key x.start size e) h.order)
        intro x y hx hy hlt
        have kx := ((inWin_iff _ _ _ _).1 (List.mem_filter.1 hx).2).1
        have ky := ((inWin_iff _ _ _ _).1 (List.mem_filter.1 hy).2).1
        rcases (ltW_iff x y).1 hlt with h | ⟨_, h⟩
        · exact h
        · rw [← kx, ← ky] at h
          exact absurd h (less_irr _)
      exact hp.imp (fun h e => by omega)
    · obtain ⟨x, hx, rfl⟩ := List.mem_map.1 hs
      obtain ⟨_, q1, q2⟩ := (inWin_iff _ _ _ _).1 (List.mem_filter.1 hx).2
      exact List.mem_map.2 ⟨(x.start - (e.t - size + 1)).toNat, List.mem_range.2 (by omega), by omega⟩)
  exact Nat.le_trans h1 (Nat.le_trans (Nat.le_of_eq h2) h3)
theorem DoneOk.fewW {size slide lt : Int} {T : Option Int} {li : Bool} {E : List Ev} {ds : List Win} (h : DoneOk size slide T lt li E ds) : ds.length ≤ E.length * size.toNat :=
  WinSet.few (slide := slide) h (fun _ _ hp => hp.2.1)
theorem DoneOk.allN {size slide lt : Int} {E : List Ev} {ds : List Win} (h : DoneOk size slide none lt true E ds) (hE : ∀ e ∈ E, e.t + size ≤ lt) : AllW size slide E ds := by
  refine WinSet.congr h (fun k s => ?_)
  unfold winP winQ
  constructor
  · rintro ⟨_, h1, _⟩
    exact h1
  · rintro ⟨e, he, h1, h2, h3, h4⟩
    have := hE e he
    exact ⟨rfl, ⟨e, he, h1, h2, h3, h4⟩, by omega, rfl⟩
theorem Solo.finOpen {n0 : Nat} {X : Nat → Prop} {w : World} {f : Nat} {c : Cf} {sp : Sp} {T : Option Int} {E : List Ev} (n : Nat) (h : Solo n0 X w f c sp T) (hX : ∀ k, X k → k < w.heap.size) (h0 : n0 ≤ w.heap.size) (hn : n < 3) (hF : HFin c E sp n) :
    Calls Tryz.prog 22 #[.pointer (some ⟨f, 0, none⟩), .int .i64 n] w fun en w' => ∃ (cd : Int) (sp' : Sp) (s : SrcS), en = .returned (.int .i64 cd) ∧ Solo n0 X w' f c sp' T ∧ HFin c E sp' n ∧ (sp'.src[n]? = some s ∧ s.opened = true) ∧ (sp.li = true → sp'.li = true ∧ sp.lt ≤ sp'.lt) ∧ Kept (fun k => n0 ≤ k ∧ ¬ X k) w w' := by
  obtain ⟨s, hs⟩ : ∃ s, sp.src[n]? = some s := ⟨_, List.getElem?_eq_getElem (by rw [hF.len]; omega)⟩
  cases ho : s.opened with
  | true => exact (h.openNo n s hX h0 hs ho).mono (fun _ _ ⟨h1, h2, h3⟩ => ⟨_, sp, s, h1, h2, hF, ⟨hs, ho⟩, fun hl => ⟨hl, Int.le_refl _⟩, h3⟩)
  | false => exact (h.open n s hX h0 hs ho).mono (fun _ _ ⟨h1, h2, h3⟩ => ⟨_, sp.open n, ⟨true, s.broken, s.time, s.is⟩, h1, h2, hF.open hn, ⟨by show (sp.src.modify n _)[n]? = _; rw [List.getElem?_modify, hs]; simp, rfl⟩, fun hl => ⟨hl, Int.le_refl _⟩, h3⟩)
theorem Solo.finMark {n0 : Nat} {X : Nat → Prop} {w : World} {f : Nat} {c : Cf} {sp : Sp} {T : Option Int} {E : List Ev} (n : Nat) (bv : Value) (s : SrcS) (h : Solo n0 X w f c sp T) (hX : ∀ k, X k → k < w.heap.size) (h0 : n0 ≤ w.heap.size) (hn : n < 3) (hF : HFin c E sp n) (hl : 0 ≤ c.late) (hE : E.length ≤ 100000) (hs : sp.src[n]? = some s ∧ s.opened = true) (hb : Row w 5 1 bv ((markB 100000).map byteV)) :
    Calls Tryz.prog 20 #[.pointer (some ⟨f, 0, none⟩), .int .i64 n, bv] w fun en w' => en = .returned (.int .i64 0) ∧ ∃ sp' : Sp, Solo n0 X w' f c sp' T ∧ HFin c E sp' (n + 1) ∧ (sp.li = true → sp'.li = true ∧ sp.lt ≤ sp'.lt) ∧ Kept (fun k => n0 ≤ k ∧ ¬ X k) w w' :=
  (h.mark n 100000 bv s hX h0 (by omega) (by omega) hb hs.1 hs.2 (hF.src n s hs.1).1 (by omega) (by rw [hF.E]; omega)).mono (fun _ _ ⟨q1, q2, q3⟩ => ⟨q1, _, q2, hF.mark hl s hs.1 hs.2, fun hli => lineF_up c.late _ sp.lt sp.li hli, q3⟩)
end Go.Proofs.YtcfngdnmpogaoaaGreat
