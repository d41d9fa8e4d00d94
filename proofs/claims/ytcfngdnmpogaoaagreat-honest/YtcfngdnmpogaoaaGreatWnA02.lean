import Derived.Test.YtcfngdnmpogaoaaGreatWnS01
namespace Go.Proofs.YtcfngdnmpogaoaaGreat
open Go.RowKit

def Solo (n0 : Nat) (X : Nat → Prop) (w : World) (f : Nat) (c : Cf) (sp : Sp) (T : Option Int) : Prop :=
  ∃ F, FlowOn w f c sp (List.replicate 8 []) F T ∧ ∀ k, F k → n0 ≤ k ∧ k < w.heap.size ∧ ¬ X k
theorem Solo.start {n0 f : Nat} {c : Cf} {sp : Sp} {w1 w2 : World} (h1 : FlowOn w2 f c sp (List.replicate 8 []) (fun k => w1.heap.size ≤ k) none) (hn : n0 ≤ w1.heap.size) : Solo n0 (fun _ => False) w2 f c sp none :=
  ⟨_, h1.lt, fun k hk => ⟨by have := hk.1; omega, hk.2, id⟩⟩
theorem Solo.kept {n0 : Nat} {X Y : Nat → Prop} {w w' : World} {f : Nat} {c : Cf} {sp : Sp} {T : Option Int} (h : Solo n0 X w f c sp T) (hk : Kept Y w w') (hY : ∀ k, k < w.heap.size → Y k → k < n0 ∨ X k) : Solo n0 X w' f c sp T := by
  obtain ⟨F, h1, h3⟩ := h
  have hs := hk.size
  refine ⟨F, h1.kept hk (fun k hf hy => ?_), fun k hf => ⟨(h3 k hf).1, by have := (h3 k hf).2.1; omega, (h3 k hf).2.2⟩⟩
  obtain ⟨q1, q2, q3⟩ := h3 k hf
  rcases hY k q2 hy with h | h
  · omega
  · exact q3 h
theorem Solo.below {n0 : Nat} {X : Nat → Prop} {w w' : World} {f : Nat} {c : Cf} {sp : Sp} {T : Option Int} (h : Solo n0 X w f c sp T) (hb : Below w.heap.size w w') : Solo n0 X w' f c sp T := h.kept (Kept.ofBelow hb (fun _ => False)) (fun _ _ h => h.elim)
theorem Solo.wide {n0 : Nat} {X X' : Nat → Prop} {w : World} {f : Nat} {c : Cf} {sp : Sp} {T : Option Int} (h : Solo n0 X w f c sp T) (hX : ∀ k, X' k → X k ∨ w.heap.size ≤ k) : Solo n0 X' w f c sp T := by
  obtain ⟨F, h1, h3⟩ := h
  refine ⟨F, h1, fun k hf => ⟨(h3 k hf).1, (h3 k hf).2.1, fun hx => ?_⟩⟩
  rcases hX k hx with h | h
  · exact (h3 k hf).2.2 h
  · have := (h3 k hf).2.1; omega
theorem Solo.by {n0 : Nat} {X : Nat → Prop} {w : World} {f : Nat} {c : Cf} {sp sp' : Sp} {T : Option Int} (h : Solo n0 X w f c sp T) (hX : ∀ k, X k → k < w.heap.size) (h0 : n0 ≤ w.heap.size) {fn : Nat} {args : Array Value} {P : Ending → Prop}
    (hc : ∀ F, FlowOn w f c sp (List.replicate 8 []) F T → Calls Tryz.prog fn args w fun e w' => P e ∧ FlowOn w' f c sp' (List.replicate 8 []) (Grown F w) T ∧ Kept F w w') :
    Calls Tryz.prog fn args w fun e w' => P e ∧ Solo n0 X w' f c sp' T ∧ Kept (fun k => n0 ≤ k ∧ ¬ X k) w w' := by
  obtain ⟨F, h1, h3⟩ := h
  refine (hc F h1).mono ?_
  rintro e w' ⟨hP, hF, hk⟩
  refine ⟨hP, ⟨_, hF.lt, ?_⟩, hk.mono (fun k _ hf => ⟨(h3 k hf).1, (h3 k hf).2.2⟩)⟩
  rintro k ⟨hg | hg, hl⟩
  · exact ⟨(h3 k hg).1, hl, (h3 k hg).2.2⟩
  · exact ⟨by omega, hl, fun hx => by have := hX k hx; omega⟩
theorem Solo.take {n0 : Nat} {X : Nat → Prop} {w : World} {f : Nat} {c : Cf} {sp : Sp} {T : Option Int} (HRis : RisingOk) (HSo : SortOk) (h : Solo n0 X w f c sp T) (hX : ∀ k, X k → k < w.heap.size) (h0 : n0 ≤ w.heap.size) (hli : sp.E ≠ [] → sp.li = true) (hE : sp.E.length ≤ 200000) (hz : c.size ≤ 4096 * c.slide) (hlt : sp.lt ≤ 2305843009213693952) :
    Calls Tryz.prog 25 #[.pointer (some ⟨f, 0, none⟩)] w fun e w' => ∃ ov ys, e = .returned ov ∧ WinsAt w' ov ys 0 ∧ DoneOk c.size c.slide T sp.lt sp.li sp.E (ys.map WinX.w) ∧ (∀ k, OutB ov ys k → w.heap.size ≤ k ∧ k < w'.heap.size) ∧ Solo n0 (fun k => X k ∨ OutB ov ys k) w' f c sp (tookT sp T) ∧ Kept (fun k => n0 ≤ k ∧ ¬ X k) w w' := by
  obtain ⟨F, h1, h3⟩ := h
  refine (take_on HRis HSo f c sp _ F T w h1 hli hE hz hlt).mono ?_
  rintro e w' ⟨ov, ys, rfl, hw, hd, hov, hys, -, hF, hk⟩
  have hO : ∀ k, OutB ov ys k → w.heap.size ≤ k ∧ k < w'.heap.size := fun k hk => by
    rcases hk with hk | ⟨x, hx, hk⟩
    · exact ⟨hov k hk, (hw.row.blk_lt hk).1⟩
    · exact ⟨hys x hx k hk, ((hw.tags x hx).1.blk_lt hk).1⟩
  have hR : ∀ k, OutB ov ys k → ∃ e sz v xs, Row w' e sz v xs ∧ (e = 70 ∨ e = 26) ∧ v.ownBlock = some k := fun k hk => by
    rcases hk with hk | ⟨x, hx, hk⟩
    · exact ⟨_, _, _, _, hw.row, .inl rfl, hk⟩
    · exact ⟨_, _, _, _, (hw.tags x hx).1, .inr rfl, hk⟩
  refine ⟨ov, ys, rfl, hw, hd, hO, ⟨_, (hF.lt).shun (X := OutB ov ys) hR, ?_⟩, hk.mono (fun k _ hf => ⟨(h3 k hf).1, (h3 k hf).2.2⟩)⟩
  rintro k ⟨⟨hg | hg, hl⟩, hn⟩
  · exact ⟨(h3 k hg).1, hl, fun hx => hx.elim (h3 k hg).2.2 hn⟩
  · exact ⟨by omega, hl, fun hx => hx.elim (fun hx => by have := hX k hx; omega) hn⟩
theorem Solo.counts {n0 : Nat} {X : Nat → Prop} {w : World} {f : Nat} {c : Cf} {sp : Sp} {T : Option Int} (h : Solo n0 X w f c sp T) (hX : ∀ k, X k → k < w.heap.size) (h0 : n0 ≤ w.heap.size) :
    Calls Tryz.prog 27 #[.pointer (some ⟨f, 0, none⟩)] w fun e w' => e = .returned (countsV sp.n) ∧ Solo n0 X w' f c sp T ∧ Kept (fun k => n0 ≤ k ∧ ¬ X k) w w' :=
  h.by hX h0 (fun F hF => (counts_on f c sp _ F T w hF).mono (fun _ _ ⟨h1, h2, h3⟩ => ⟨h1, h2.up, h3⟩))
theorem Solo.fed {n0 : Nat} {X : Nat → Prop} {w : World} {f : Nat} {c : Cf} {sp : Sp} {T : Option Int} (n : Nat) (ev : Ev) (s : SrcS) (h : Solo n0 X w f c sp T) (hX : ∀ k, X k → k < w.heap.size) (h0 : n0 ≤ w.heap.size) (hE : EvB ev) (hs : sp.src[n]? = some s) (ho : s.opened = true) (hbr : s.broken = false) (hn : n < 8) (hl : sp.E.length < 80000000) :
    Calls Tryz.prog 24 #[.pointer (some ⟨f, 0, none⟩), .int .i64 n, evItemV ev] w fun e w' => e = .returned (.bool true) ∧ Solo n0 X w' f c ((sp.event0 c n ev).line c) T ∧ Kept (fun k => n0 ≤ k ∧ ¬ X k) w w' :=
  h.by hX h0 (fun _ hF => (fed_on f n c sp (List.replicate 8 []) _ T ev s w hF.lt (fun _ hk => hk.2) hE hs ho hbr (by rw [List.getElem?_replicate, if_pos hn]) hl).mono (fun _ _ ⟨h1, h2, h3⟩ => ⟨h1, h2.mono (fun _ hk => hk.imp (fun q => q.1) id), h3.mono (fun _ _ hk => hk.1)⟩))
theorem Solo.mark {n0 : Nat} {X : Nat → Prop} {w : World} {f : Nat} {c : Cf} {sp : Sp} {T : Option Int} (n : Nat) (t : Int) (bv : Value) (s : SrcS) (h : Solo n0 X w f c sp T) (hX : ∀ k, X k → k < w.heap.size) (h0 : n0 ≤ w.heap.size) (t1 : -9223372036854775808 ≤ t) (t2 : t < 9223372036854775808) (hb : Row w 5 1 bv ((markB t).map byteV)) (hs : sp.src[n]? = some s) (ho : s.opened = true) (hbr : s.broken = false) (hn : n < 8) (hl : sp.E.length < 80000000) :
    Calls Tryz.prog 20 #[.pointer (some ⟨f, 0, none⟩), .int .i64 n, bv] w fun e w' => e = .returned (.int .i64 0) ∧ Solo n0 X w' f c ((sp.mark0 n t).line c) T ∧ Kept (fun k => n0 ≤ k ∧ ¬ X k) w w' :=
  h.by hX h0 (fun F hF => by
    have hl0 : (List.replicate 8 ([] : List UInt8))[n]? = some [] := by rw [List.getElem?_replicate, if_pos hn]
    have hlen : (markB t).length ≤ 100 := by
      have h2 := frame_len (kind := 2) (key := ⟨#[]⟩) (time := t) (value := 0) (tag := 0) item_mark2
      obtain ⟨h3, h4⟩ := itemBody_len (kind := 2) (key := ⟨#[]⟩) (time := t) (value := 0) (tag := 0) item_mark2
      unfold markB
      omega
    have h1 := feed_on f n c sp (List.replicate 8 []) F T bv (markB t) [] s w hF hs ho hbr hl0 hb (by omega)
    rw [List.nil_append] at h1
    have h2 := (feed_mk c n (markB t).length sp t t1 t2 []).1
    rw [List.append_nil, feedF_void] at h2
    rw [h2, set_void _ n hl0] at h1
    exact h1)
theorem Solo.open {n0 : Nat} {X : Nat → Prop} {w : World} {f : Nat} {c : Cf} {sp : Sp} {T : Option Int} (n : Nat) (s : SrcS) (h : Solo n0 X w f c sp T) (hX : ∀ k, X k → k < w.heap.size) (h0 : n0 ≤ w.heap.size) (hs : sp.src[n]? = some s) (ho : s.opened = false) :
    Calls Tryz.prog 22 #[.pointer (some ⟨f, 0, none⟩), .int .i64 n] w fun e w' => e = .returned (.int .i64 0) ∧ Solo n0 X w' f c (sp.open n) T ∧ Kept (fun k => n0 ≤ k ∧ ¬ X k) w w' :=
  h.by hX h0 (fun F hF => (open_on f n c sp _ F T s w hF hs ho).mono (fun _ _ ⟨h1, h2, h3⟩ => ⟨h1, h2.up, h3⟩))
end Go.Proofs.YtcfngdnmpogaoaaGreat
namespace Go.Proofs.YtcfngdnmpogaoaaGreat
open Go.RowKit

def winQ (size slide : Int) (E : List Ev) (key : ByteArray) (s : Int) : Prop := ∃ e ∈ E, e.key = key ∧ slide ∣ s ∧ s ≤ e.t ∧ e.t < s + size
/-- All windows of E, in their order. -/
def AllW (size slide : Int) (E : List Ev) (ds : List Win) : Prop := WinSet size E (winQ size slide E) ds

def evsIn (size : Int) (E : List Ev) (x : Win) : List Ev := E.filter (inWin x.key x.start size)
theorem AllW.win {size slide : Int} {E : List Ev} {ds : List Win} (h : AllW size slide E ds) (hE : Fits E) {x : Win} (hx : x ∈ ds) : WinIs x x.key x.start (evsIn size E x) ∧ evsIn size E x ≠ [] ∧ slide ∣ x.start := by
  obtain ⟨key, s, ⟨e, he, rfl, h1, h2, h3⟩, rfl⟩ := (h.mem x).1 hx
  have hi := winF_is e.key s size E hE
  obtain ⟨k1, k2⟩ := winF_key e.key s size E
  unfold evsIn
  rw [k1, k2]
  refine ⟨hi, fun h0 => ?_, h1⟩
  have : e ∈ E.filter (inWin e.key s size) := List.mem_filter.2 ⟨he, (inWin_iff _ _ _ _).2 ⟨rfl, h2, h3⟩⟩
  rw [h0] at this
  cases this

/-- Distinct tags are no more than the events. -/
theorem rise_len : ∀ (l : List Nat) (m : List Nat), l.Pairwise (· < ·) → (∀ x ∈ l, x ∈ m) → l.length ≤ m.length
  | [], _, _, _ => Nat.zero_le _
  | a :: l, m, h, hm => by
    have ha := hm a (List.mem_cons_self ..)
    rw [List.pairwise_cons] at h
    have := rise_len l (m.erase a) h.2 (fun x hx => by
      have hne : x ≠ a := fun e => by have := h.1 x hx; omega
      exact (List.mem_erase_of_ne hne).2 (hm x (List.mem_cons_of_mem _ hx)))
    rw [List.length_erase_of_mem ha] at this
    have h0 : 0 < m.length := List.length_pos_of_mem ha
    rw [List.length_cons]
    omega
theorem WinIs.tagsLen {x : Win} {key : ByteArray} {s : Int} {W : List Ev} (h : WinIs x key s W) : x.tags.length ≤ W.length := by
  have := rise_len x.tags (W.map Ev.tag) h.rise (fun t ht => by
    obtain ⟨e, he, rfl⟩ := (h.tags t).1 ht
    exact List.mem_map.2 ⟨e, he, rfl⟩)
  rw [List.length_map] at this
  exact this

/-- Starts in the Size ahead of t. -/
def cntS (size slide t : Int) (j : Nat) : Nat := ((List.range j).filter fun i : Nat => decide ((t - size + 1 + (i : Int)).tmod slide = 0)).length
theorem cntS_succ (size slide t : Int) (j : Nat) : cntS size slide t (j + 1) = cntS size slide t j + if (t - size + 1 + (j : Int)).tmod slide = 0 then 1 else 0 := by
  unfold cntS
  rw [List.range_succ, List.filter_append, List.length_append]
  congr 1
  by_cases h : (t - size + 1 + (j : Int)).tmod slide = 0
  · simp [h]
  · simp [h]
theorem cntS_le (size slide t : Int) (j : Nat) : cntS size slide t j ≤ j := by
  unfold cntS
  have := List.length_filter_le (fun i : Nat => decide ((t - size + 1 + (i : Int)).tmod slide = 0)) (List.range j)
  rw [List.length_range] at this
  exact this

theorem sum_count {β : Type} (p : β → Bool) : ∀ (B : List β) (f : β → Nat), (B.map fun b => (if p b then 1 else 0) + f b).sum = (B.filter p).length + (B.map f).sum
  | [], _ => rfl
  | b :: B, f => by
    rw [List.map_cons, List.sum_cons, sum_count p B f, List.map_cons, List.sum_cons, List.filter_cons]
    by_cases h : p b = true
    · rw [if_pos h, if_pos h, List.length_cons]; omega
    · rw [if_neg h, if_neg h]; omega
theorem sum_swap {α β : Type} (p : α → β → Bool) : ∀ (A : List α) (B : List β), (A.map fun a => (B.filter (p a)).length).sum = (B.map fun b => (A.filter fun a => p a b).length).sum
  | [], B => by
    induction B with
    | nil => rfl
    | cons b B ih => rw [List.map_cons, List.sum_cons, ← ih]; rfl
  | a :: A, B => by
    rw [List.map_cons, List.sum_cons, sum_swap p A B, ← sum_count (p a) B]
    congr 1
    refine List.map_congr_left (fun b _ => ?_)
    rw [List.filter_cons]
    by_cases h : p a b = true
    · rw [if_pos h, if_pos h, List.length_cons]; omega
    · rw [if_neg h, if_neg h]; omega
theorem rise_eq : ∀ (a b : List Int), a.Pairwise (· < ·) → b.Pairwise (· < ·) → (∀ x, x ∈ a ↔ x ∈ b) → a.length = b.length := fun a b ha hb h => by
  have na : a.Nodup := ha.imp (fun h e => by omega)
  have nb : b.Nodup := hb.imp (fun h e => by omega)
  exact ((List.perm_ext_iff_of_nodup na nb).2 h).length_eq
theorem less_irr (k : ByteArray) : Op.bytesLess k.toList k.toList ≠ true := fun h => by
  have hx : ltW ⟨k, 0, 0, 0, 0, 0, []⟩ ⟨k, 0, 0, 0, 0, 0, []⟩ := (ltW_iff _ _).2 (.inr ⟨rfl, h⟩)
  exact ltW_irrefl _ hx
theorem AllW.each {size slide : Int} {E : List Ev} {ds : List Win} (h : AllW size slide E ds) (_h1 : 1 ≤ slide) (h2 : 0 ≤ size) {e : Ev} (he : e ∈ E) : (ds.filter fun x => inWin x.key x.start size e).length = cntS size slide e.t size.toNat := by
  have hl : (ds.filter fun x => inWin x.key x.start size e).length = ((ds.filter fun x => inWin x.key x.start size e).map Win.start).length := by rw [List.length_map]
  have hr : cntS size slide e.t size.toNat = (((List.range size.toNat).filter fun i : Nat => decide ((e.t - size + 1 + (i : Int)).tmod slide = 0)).map fun i : Nat => e.t - size + 1 + (i : Int)).length := by rw [List.length_map]; rfl
  rw [hl, hr]
  refine rise_eq _ _ ?_ ?_ (fun s => ?_)
  · rw [List.pairwise_map]
    have hp := List.Pairwise.filter (fun x => inWin x.key x.start size e) h.order
    refine List.Pairwise.imp_of_mem ?_ hp
    intro x y hx hy hlt
    have kx := ((inWin_iff _ _ _ _).1 (List.mem_filter.1 hx).2).1
    have ky := ((inWin_iff _ _ _ _).1 (List.mem_filter.1 hy).2).1
    rcases (ltW_iff x y).1 hlt with h | ⟨_, h⟩
    · exact h
    · rw [← kx, ← ky] at h
      exact absurd h (less_irr _)
  · rw [List.pairwise_map]
    refine List.Pairwise.filter _ ?_
    exact (List.pairwise_lt_range (n := size.toNat)).imp (fun h => by omega)
  · constructor
    · intro hs
      obtain ⟨x, hx, rfl⟩ := List.mem_map.1 hs
      obtain ⟨hxd, hxi⟩ := List.mem_filter.1 hx
      obtain ⟨_, q1, q2⟩ := (inWin_iff _ _ _ _).1 hxi
      obtain ⟨key, s, ⟨_, _, _, hd, _⟩, rfl⟩ := (h.mem x).1 hxd
      rw [(winF_key key s size E).2] at q1 q2 ⊢
      have hz : (((s - (e.t - size + 1)).toNat : Nat) : Int) = s - (e.t - size + 1) := Int.toNat_of_nonneg (by omega)
      refine List.mem_map.2 ⟨(s - (e.t - size + 1)).toNat, List.mem_filter.2 ⟨List.mem_range.2 (by omega), decide_eq_true ?_⟩, by omega⟩
      rw [hz, show e.t - size + 1 + (s - (e.t - size + 1)) = s by omega]
      exact Int.tmod_eq_zero_of_dvd hd
    · intro hs
      obtain ⟨i, hi, rfl⟩ := List.mem_map.1 hs
      obtain ⟨hi1, hi2⟩ := List.mem_filter.1 hi
      have hi1 := List.mem_range.1 hi1
      have hd : slide ∣ e.t - size + 1 + (i : Int) := Int.dvd_of_tmod_eq_zero (of_decide_eq_true hi2)
      obtain ⟨s, hs⟩ : ∃ s, e.t - size + 1 + (i : Int) = s := ⟨_, rfl⟩
      rw [hs] at hd ⊢
      have q1 : s ≤ e.t ∧ e.t < s + size := by omega
      refine List.mem_map.2 ⟨winF e.key s size E, List.mem_filter.2 ⟨(h.mem _).2 ⟨e.key, s, ⟨e, he, rfl, hd, q1.1, q1.2⟩, rfl⟩, ?_⟩, (winF_key e.key s size E).2⟩
      rw [(winF_key e.key s size E).1, (winF_key e.key s size E).2]
      exact (inWin_iff _ _ _ _).2 ⟨rfl, q1.1, q1.2⟩
/-- How many events the windows hold in all. -/
theorem AllW.total {size slide : Int} {E : List Ev} {ds : List Win} (h : AllW size slide E ds) (h1 : 1 ≤ slide) (h2 : 0 ≤ size) : (ds.map fun x => (evsIn size E x).length).sum = (E.map fun e => cntS size slide e.t size.toNat).sum := by
  have hs := sum_swap (fun (x : Win) (e : Ev) => inWin x.key x.start size e) ds E
  refine hs.trans (congrArg List.sum (List.map_congr_left (fun e he => h.each h1 h2 he)))
theorem sum_le {α : Type} (f : α → Nat) (b : Nat) : ∀ l : List α, (∀ x ∈ l, f x ≤ b) → (l.map f).sum ≤ l.length * b
  | [], _ => by simp
  | x :: l, h => by
    have h1 := h x (List.mem_cons_self ..)
    have h2 := sum_le f b l (fun y hy => h y (List.mem_cons_of_mem _ hy))
    rw [List.map_cons, List.sum_cons, List.length_cons, Nat.add_mul]
    omega
theorem sum_take_le {α : Type} (f : α → Nat) (k : Nat) (l : List α) : ((l.take k).map f).sum ≤ (l.map f).sum := by
  conv => rhs; rw [← List.take_append_drop k l, List.map_append, List.sum_append]
  omega
theorem sum_take_succ {α : Type} (f : α → Nat) {k : Nat} {l : List α} {x : α} (h : l[k]? = some x) : ((l.take (k + 1)).map f).sum = ((l.take k).map f).sum + f x := by
  obtain ⟨hk, rfl⟩ := List.getElem?_eq_some_iff.1 h
  rw [List.take_succ_eq_append_getElem hk, List.map_append, List.sum_append]
  simp
theorem len_le_sum {α : Type} (f : α → Nat) : ∀ l : List α, (∀ x ∈ l, 1 ≤ f x) → l.length ≤ (l.map f).sum
  | [], _ => by simp
  | x :: l, h => by
    have h1 := h x (List.mem_cons_self ..)
    have h2 := len_le_sum f l (fun y hy => h y (List.mem_cons_of_mem _ hy))
    rw [List.map_cons, List.sum_cons, List.length_cons]
    omega
theorem AllW.sums {size slide : Int} {E : List Ev} {ds : List Win} (h : AllW size slide E ds) (h1 : 1 ≤ slide) (h2 : 0 ≤ size) : (ds.map fun x => (evsIn size E x).length).sum ≤ E.length * size.toNat := by
  rw [h.total h1 h2]
  exact sum_le _ _ E (fun e _ => cntS_le size slide e.t size.toNat)
theorem AllW.len {size slide : Int} {E : List Ev} {ds : List Win} (h : AllW size slide E ds) (hF : Fits E) (h1 : 1 ≤ slide) (h2 : 0 ≤ size) : ds.length ≤ E.length * size.toNat :=
  Nat.le_trans (len_le_sum (fun x => (evsIn size E x).length) ds (fun _ hx => List.length_pos_iff.2 (h.win hF hx).2.1)) (h.sums h1 h2)
theorem filter_take1 {α : Type} (p : α → Bool) {k : Nat} {l : List α} {x : α} (h : l[k]? = some x) : (l.take (k + 1)).filter p = if p x then (l.take k).filter p ++ [x] else (l.take k).filter p := by
  obtain ⟨hk, rfl⟩ := List.getElem?_eq_some_iff.1 h
  rw [List.take_succ_eq_append_getElem hk, List.filter_append, List.filter_cons, List.filter_nil]
  split
  · rfl
  · rw [List.append_nil]
end Go.Proofs.YtcfngdnmpogaoaaGreat
namespace Go.Proofs.YtcfngdnmpogaoaaGreat
open Go.RowKit

theorem goKeys_spec (size slide lt : Int) (li : Bool) (E : List Ev) : (goKeys size slide lt li E).Nodup ∧ ∀ k ∈ goKeys size slide lt li E, ∃ e ∈ E, behind size slide lt li e = false ∧ e.key = k := by
  induction E using snoc_ind with
  | nil => exact ⟨List.nodup_nil, fun k hk => by cases hk⟩
  | snoc E e ih =>
    obtain ⟨h1, h2⟩ := ih
    rw [goKeys_snoc]
    split
    · exact ⟨h1, fun k hk => by
        obtain ⟨x, hx, h⟩ := h2 k hk
        exact ⟨x, List.mem_append_left _ hx, h⟩⟩
    · rename_i hn
      simp only [Bool.or_eq_true, not_or, Bool.not_eq_true] at hn
      obtain ⟨hb, ha⟩ := hn
      refine ⟨List.nodup_append.2 ⟨h1, by simp, fun k hk k' hk' e' => ?_⟩, fun k hk => ?_⟩
      · rw [List.mem_singleton] at hk'
        subst hk' e'
        rw [List.any_eq_false] at ha
        exact ha _ hk ((keyEq_iff _ _).2 rfl)
      · rcases List.mem_append.1 hk with hk | hk
        · obtain ⟨x, hx, h⟩ := h2 k hk
          exact ⟨x, List.mem_append_left _ hx, h⟩
        · rw [List.mem_singleton] at hk
          exact ⟨e, List.mem_append_right _ (List.mem_singleton.2 rfl), hb, hk.symm⟩
/-- Of five keys none is one too many. -/
theorem many_five (c : Cf) (sp : Sp) (K : List ByteArray) (hK : K.length ≤ 5) (hE : ∀ e ∈ sp.E, e.key ∈ K) (key : ByteArray) (hk : key ∈ K) (h5 : 5 ≤ c.keys) : (!sp.isGo c key && decide (c.keys ≤ (sp.many c : Int))) = false := by
  cases hg : sp.isGo c key with
  | true => rfl
  | false =>
    obtain ⟨h1, h2⟩ := goKeys_spec c.size c.slide sp.lt sp.li sp.E
    have h3 := nodup_len (key :: goKeys c.size c.slide sp.lt sp.li sp.E) K (List.nodup_cons.2 ⟨fun hin => by
      obtain ⟨e, he, hb, e'⟩ := h2 key hin
      unfold Sp.isGo at hg
      rw [List.any_eq_false] at hg
      refine hg e he ?_
      rw [hb, e']
      simp only [Bool.not_false, Bool.true_and]
      exact (keyEq_iff _ _).2 rfl, h1⟩) (fun k hk' => by
      rcases List.mem_cons.1 hk' with rfl | hk'
      · exact hk
      · obtain ⟨e, he, _, rfl⟩ := h2 k hk'
        exact hE e he)
    rw [List.length_cons] at h3
    have h4 : sp.many c ≤ 4 := by unfold Sp.many; omega
    simp only [Bool.not_false, Bool.true_and, decide_eq_false_iff_not]
    omega

def srcW (a b : Int) : List SrcS := ⟨true, false, a, true⟩ :: ⟨true, false, b, true⟩ :: List.replicate 6 ⟨false, false, 0, false⟩
def spW (a b lt : Int) (E : List Ev) (k mk : Int) : Sp := ⟨srcW a b, E, lt, true, ⟨k, 0, 0, 0, mk, 0⟩⟩
theorem least_W (a b : Int) : leastS (srcW a b) = (if b < a then b else a, true) := by
  have h : leastS (srcW a b) = leastStepS (a, true) ⟨true, false, b, true⟩ := rfl
  rw [h]
  unfold leastStepS
  by_cases hb : b < a
  · simp [hb]
  · simp [hb]
theorem line_W (c : Cf) (a b lt : Int) (E : List Ev) (k mk : Int) (h : lt = (if b < a then b else a) - c.late ∨ lt ≤ (if b < a then b else a) - c.late) : (spW a b lt E k mk).line c = spW a b ((if b < a then b else a) - c.late) E k mk := by
  obtain ⟨m, hm⟩ : ∃ m, (if b < a then b else a) = m := ⟨_, rfl⟩
  rw [hm] at h ⊢
  have hl : lineF c.late (srcW a b) lt true = (m - c.late, true) := by
    unfold lineF
    rw [least_W, hm]
    simp only [if_true]
    by_cases hn : lt < m - c.late
    · rw [if_pos (.inr hn)]
    · rw [if_neg (by rintro (h | h); cases h; exact hn h), show lt = m - c.late by omega]
  show (⟨srcW a b, E, (lineF c.late (srcW a b) lt true).1, (lineF c.late (srcW a b) lt true).2, ⟨k, 0, 0, 0, mk, 0⟩⟩ : Sp) = _
  rw [hl]
  rfl
theorem raise_W0 (a b x : Int) : (srcW a b).modify 0 (raisedS x) = srcW (if a < x then x else a) b := by
  unfold srcW raisedS
  rw [List.modify_zero_cons]
  by_cases h : a < x
  · simp [h]
  · simp [h]
theorem raise_W1 (a b x : Int) : (srcW a b).modify 1 (raisedS x) = srcW a (if b < x then x else b) := by
  unfold srcW raisedS
  rw [List.modify_succ_cons, List.modify_zero_cons]
  by_cases h : b < x
  · simp [h]
  · simp [h]
theorem event_W (c : Cf) (a b : Int) (E : List Ev) (k mk : Int) (e : Ev) (hab : b ≤ a) (ho : outB e = false) (hl : b - c.late ≤ e.t) (hf : (!(spW a b (b - c.late) E k mk).isGo c e.key && decide (c.keys ≤ ((spW a b (b - c.late) E k mk).many c : Int))) = false) :
    ((spW a b (b - c.late) E k mk).event0 c 0 e).line c = spW (if a < e.t then e.t else a) b (b - c.late) (E ++ [e]) (wrap64 (k + 1)) mk := by
  have h1 : (spW a b (b - c.late) E k mk).event0 c 0 e = spW (if a < e.t then e.t else a) b (b - c.late) (E ++ [e]) (wrap64 (k + 1)) mk := by
    unfold Sp.event0
    rw [ho, hf]
    have hd : ((spW a b (b - c.late) E k mk).li && decide (e.t < (spW a b (b - c.late) E k mk).lt)) = false := by
      unfold spW
      simp only [Bool.true_and, decide_eq_false_iff_not]
      omega
    rw [hd]
    unfold Sp.raise spW
    simp only [Bool.false_eq_true, if_false, raise_W0]
  rw [h1, line_W]
  · congr 1
    repeat' split
    all_goals omega
  · right
    repeat' split
    all_goals omega
theorem mark_W0 (c : Cf) (a b : Int) (E : List Ev) (k mk x : Int) (hab : b ≤ a) (hx : a ≤ x) (hc : clampT x = x) : ((spW a b (b - c.late) E k mk).mark0 0 x).line c = spW x b (b - c.late) E k (wrap64 (mk + 1)) := by
  have h1 : (spW a b (b - c.late) E k mk).mark0 0 x = spW x b (b - c.late) E k (wrap64 (mk + 1)) := by
    unfold Sp.mark0 Sp.raise spW
    simp only [hc, raise_W0]
    congr 2
    split
    · rfl
    · omega
  rw [h1, line_W]
  · congr 1
    repeat' split
    all_goals omega
  · right
    repeat' split
    all_goals omega
theorem mark_W1 (c : Cf) (b : Int) (E : List Ev) (k mk x : Int) (hx : b ≤ x) (hc : clampT x = x) : ((spW x b (b - c.late) E k mk).mark0 1 x).line c = spW x x (x - c.late) E k (wrap64 (mk + 1)) := by
  have h1 : (spW x b (b - c.late) E k mk).mark0 1 x = spW x x (b - c.late) E k (wrap64 (mk + 1)) := by
    unfold Sp.mark0 Sp.raise spW
    simp only [hc, raise_W1]
    congr 2
    split
    · rfl
    · omega
  rw [h1, line_W]
  · congr 1
    repeat' split
    all_goals omega
  · right
    repeat' split
    all_goals omega
theorem wrap64_0p1 : wrap64 (0 + 1) = 1 := by unfold wrap64; omega
theorem wrap64_1p1 : wrap64 (1 + 1) = 2 := by unfold wrap64; omega
def spV (c : Cf) (m : Int) : Sp := ⟨⟨true, false, m, true⟩ :: List.replicate 7 ⟨false, false, 0, false⟩, [], m - c.late, true, ⟨0, 0, 0, 0, 1, 0⟩⟩
theorem mark_V (c : Cf) (m : Int) (hc : clampT m = m) : ((Sp.new.open 0).mark0 0 m).line c = spV c m := by
  have h1 : (Sp.new.open 0).mark0 0 m = ⟨⟨true, false, m, true⟩ :: List.replicate 7 ⟨false, false, 0, false⟩, [], 0, false, ⟨0, 0, 0, 0, 1, 0⟩⟩ := by
    unfold Sp.mark0
    rw [hc]
    show (⟨⟨true, false, m, true⟩ :: List.replicate 7 ⟨false, false, 0, false⟩, [], 0, false, ⟨0, 0, 0, 0, wrap64 (0 + 1), 0⟩⟩ : Sp) = _
    rw [wrap64_0p1]
  rw [h1]
  rfl
theorem mark_V1 (c : Cf) (m : Int) (hc : clampT m = m) : (((spV c m).open 1).mark0 1 m).line c = spW m m (m - c.late) [] 0 2 := by
  have h1 : ((spV c m).open 1).mark0 1 m = spW m m (m - c.late) [] 0 2 := by
    unfold Sp.mark0
    rw [hc]
    show (⟨srcW m m, [], m - c.late, true, ⟨0, 0, 0, 0, wrap64 (1 + 1), 0⟩⟩ : Sp) = _
    rw [wrap64_1p1]
    rfl
  rw [h1, line_W]
  · simp
  · left; simp
/-- No window is finished early. -/
theorem DoneOk.early {size slide lt : Int} {T : Option Int} {li : Bool} {E : List Ev} {ds : List Win} (h : DoneOk size slide T lt li E ds) (hE : ∀ e ∈ E, lt ≤ e.t) : ds = [] := by
  match ds, h with
  | [], _ => rfl
  | x :: l, h =>
    obtain ⟨key, s, ⟨_, ⟨e, he, _, _, h1, h2⟩, h3, _⟩, _⟩ := (h.mem x).1 (List.mem_cons_self ..)
    have := hE e he
    omega
/-- At the end all are. -/
theorem DoneOk.all {size slide lt t0 : Int} {E : List Ev} {ds : List Win} (h : DoneOk size slide (some t0) lt true E ds) (hE : ∀ e ∈ E, t0 ≤ e.t ∧ e.t + size ≤ lt) : AllW size slide E ds := by
  refine WinSet.congr h (fun k s => ?_)
  unfold winP winQ
  constructor
  · rintro ⟨_, h1, _⟩
    exact h1
  · rintro ⟨e, he, h1, h2, h3, h4⟩
    have := hE e he
    refine ⟨rfl, ⟨e, he, h1, h2, h3, h4⟩, by omega, ?_⟩
    unfold toldB
    simp only [decide_eq_false_iff_not]
    omega
end Go.Proofs.YtcfngdnmpogaoaaGreat
