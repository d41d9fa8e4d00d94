import Derived.Test.YtcfngdnmpogaoaaGreatWnS01
namespace Go.Proofs.YtcfngdnmpogaoaaGreat
open Go.RowKit

def Solo (n0 : Nat) (X : Nat → Prop) (w : World) (f : Nat) (c : Cf) (sp : Sp) (T : Option Int) : Prop :=
  ∃ F, FlowOn w f c sp (List.replicate 8 []) F T ∧ ∀ k, F k → n0 ≤ k ∧ k < w.heap.size ∧ ¬ X k
theorem Solo.kept {n0 : Nat} {X Y : Nat → Prop} {w w' : World} {f : Nat} {c : Cf} {sp : Sp} {T : Option Int} (h : Solo n0 X w f c sp T) (hk : Kept Y w w') (hY : ∀ k, k < w.heap.size → Y k → k < n0 ∨ X k) : Solo n0 X w' f c sp T := by
  obtain ⟨F, h1, h3⟩ := h
  have hs := hk.size
  refine ⟨F, h1.kept hk (fun k hf hy => ?_), fun k hf => ⟨(h3 k hf).1, by have := (h3 k hf).2.1; omega, (h3 k hf).2.2⟩⟩
  obtain ⟨q1, q2, q3⟩ := h3 k hf
  rcases hY k q2 hy with h | h
  · omega
  · exact q3 h
theorem Solo.below {n0 : Nat} {X : Nat → Prop} {w w' : World} {f : Nat} {c : Cf} {sp : Sp} {T : Option Int} (h : Solo n0 X w f c sp T) (hb : Below w.heap.size w w') : Solo n0 X w' f c sp T := h.kept (Kept.ofBelow hb (fun _ => False)) (fun _ _ h => h.elim)
theorem Solo.wide {n0 : Nat} {X X' : Nat → Prop} {w : World} {f : Nat} {c : Cf} {sp : Sp} {T : Option Int} (h : Solo n0 X w f c sp T) (hX : ∀ k, X' k → X k ∨ w.heap.size ≤ k) : Solo n0 X' w f c sp T := by
  obtain ⟨F, h1, h3⟩ := h
  refine ⟨F, h1, fun k hf => ⟨(h3 k hf).1, (h3 k hf).2.1, fun hx => ?_⟩⟩
  rcases hX k hx with h | h
  · exact (h3 k hf).2.2 h
  · have := (h3 k hf).2.1; omega
theorem Solo.by {n0 : Nat} {X : Nat → Prop} {w : World} {f : Nat} {c : Cf} {sp sp' : Sp} {T : Option Int} (h : Solo n0 X w f c sp T) (hX : ∀ k, X k → k < w.heap.size) (h0 : n0 ≤ w.heap.size) {fn : Nat} {args : Array Value} {P : Ending → Prop}
    (hc : ∀ F, FlowOn w f c sp (List.replicate 8 []) F T → Calls Tryz.prog fn args w fun e w' => P e ∧ FlowOn w' f c sp' (List.replicate 8 []) (Grown F w) T ∧ Kept F w w') :
    Calls Tryz.prog fn args w fun e w' => P e ∧ Solo n0 X w' f c sp' T ∧ Kept (fun k => n0 ≤ k ∧ ¬ X k) w w' := by
  obtain ⟨F, h1, h3⟩ := h
  refine (hc F h1).mono ?_
  rintro e w' ⟨hP, hF, hk⟩
  refine ⟨hP, ⟨_, hF.lt, ?_⟩, hk.mono (fun k _ hf => ⟨(h3 k hf).1, (h3 k hf).2.2⟩)⟩
  rintro k ⟨hg | hg, hl⟩
  · exact ⟨(h3 k hg).1, hl, (h3 k hg).2.2⟩
  · exact ⟨by omega, hl, fun hx => by have := hX k hx; omega⟩
theorem Solo.take {n0 : Nat} {X : Nat → Prop} {w : World} {f : Nat} {c : Cf} {sp : Sp} {T : Option Int} (HRis : RisingOk) (HSo : SortOk) (h : Solo n0 X w f c sp T) (hX : ∀ k, X k → k < w.heap.size) (h0 : n0 ≤ w.heap.size) (hli : sp.E ≠ [] → sp.li = true) (hE : sp.E.length ≤ 200000) (hz : c.size ≤ 4096 * c.slide) (hlt : sp.lt ≤ 2305843009213693952) :
    Calls Tryz.prog 25 #[.pointer (some ⟨f, 0, none⟩)] w fun e w' => ∃ ov ys, e = .returned ov ∧ WinsAt w' ov ys 0 ∧ DoneOk c.size c.slide T sp.lt sp.li sp.E (ys.map WinX.w) ∧ (∀ k, OutB ov ys k → w.heap.size ≤ k ∧ k < w'.heap.size) ∧ Solo n0 (fun k => X k ∨ OutB ov ys k) w' f c sp (tookT sp T) ∧ Kept (fun k => n0 ≤ k ∧ ¬ X k) w w' := by
  obtain ⟨F, h1, h3⟩ := h
  refine (take_on HRis HSo f c sp _ F T w h1 hli hE hz hlt).mono ?_
  rintro e w' ⟨ov, ys, rfl, hw, hd, hov, hys, -, hF, hk⟩
  have hO : ∀ k, OutB ov ys k → w.heap.size ≤ k ∧ k < w'.heap.size := fun k hk => by
    rcases hk with hk | ⟨x, hx, hk⟩
    · exact ⟨hov k hk, (hw.row.blk_lt hk).1⟩
    · exact ⟨hys x hx k hk, ((hw.tags x hx).1.blk_lt hk).1⟩
  have hR : ∀ k, OutB ov ys k → ∃ e sz v xs, Row w' e sz v xs ∧ (e = 70 ∨ e = 26) ∧ v.ownBlock = some k := fun k hk => by
    rcases hk with hk | ⟨x, hx, hk⟩
    · exact ⟨_, _, _, _, hw.row, .inl rfl, hk⟩
    · exact ⟨_, _, _, _, (hw.tags x hx).1, .inr rfl, hk⟩
  refine ⟨ov, ys, rfl, hw, hd, hO, ⟨_, (hF.lt).shun (X := OutB ov ys) hR, ?_⟩, hk.mono (fun k _ hf => ⟨(h3 k hf).1, (h3 k hf).2.2⟩)⟩
  rintro k ⟨⟨hg | hg, hl⟩, hn⟩
  · exact ⟨(h3 k hg).1, hl, fun hx => hx.elim (h3 k hg).2.2 hn⟩
  · exact ⟨by omega, hl, fun hx => hx.elim (fun hx => by have := hX k hx; omega) hn⟩
theorem Solo.counts {n0 : Nat} {X : Nat → Prop} {w : World} {f : Nat} {c : Cf} {sp : Sp} {T : Option Int} (h : Solo n0 X w f c sp T) (hX : ∀ k, X k → k < w.heap.size) (h0 : n0 ≤ w.heap.size) :
    Calls Tryz.prog 27 #[.pointer (some ⟨f, 0, none⟩)] w fun e w' => e = .returned (countsV sp.n) ∧ Solo n0 X w' f c sp T ∧ Kept (fun k => n0 ≤ k ∧ ¬ X k) w w' :=
  h.by hX h0 (fun F hF => (counts_on f c sp _ F T w hF).mono (fun _ _ ⟨h1, h2, h3⟩ => ⟨h1, h2.up, h3⟩))
theorem Solo.mark {n0 : Nat} {X : Nat → Prop} {w : World} {f : Nat} {c : Cf} {sp : Sp} {T : Option Int} (n : Nat) (t : Int) (bv : Value) (s : SrcS) (h : Solo n0 X w f c sp T) (hX : ∀ k, X k → k < w.heap.size) (h0 : n0 ≤ w.heap.size) (t1 : -9223372036854775808 ≤ t) (t2 : t < 9223372036854775808) (hb : Row w 5 1 bv ((markB t).map byteV)) (hs : sp.src[n]? = some s) (ho : s.opened = true) (hbr : s.broken = false) (hn : n < 8) (hl : sp.E.length < 80000000) :
    Calls Tryz.prog 20 #[.pointer (some ⟨f, 0, none⟩), .int .i64 n, bv] w fun e w' => e = .returned (.int .i64 0) ∧ Solo n0 X w' f c ((sp.mark0 n t).line c) T ∧ Kept (fun k => n0 ≤ k ∧ ¬ X k) w w' :=
  h.by hX h0 (fun F hF => by
    have hl0 : (List.replicate 8 ([] : List UInt8))[n]? = some [] := by rw [List.getElem?_replicate, if_pos hn]
    have hlen : (markB t).length ≤ 100 := by
      have h2 := frame_len (kind := 2) (key := ⟨#[]⟩) (time := t) (value := 0) (tag := 0) item_mark2
      obtain ⟨h3, h4⟩ := itemBody_len (kind := 2) (key := ⟨#[]⟩) (time := t) (value := 0) (tag := 0) item_mark2
      unfold markB
      omega
    have h1 := feed_on f n c sp (List.replicate 8 []) F T bv (markB t) [] s w hF hs ho hbr hl0 hb (by omega)
    rw [List.nil_append] at h1
    have h2 := (feed_mk c n (markB t).length sp t t1 t2 []).1
    rw [List.append_nil, feedF_void] at h2
    rw [h2, set_void _ n hl0] at h1
    exact h1)
theorem Solo.open {n0 : Nat} {X : Nat → Prop} {w : World} {f : Nat} {c : Cf} {sp : Sp} {T : Option Int} (n : Nat) (s : SrcS) (h : Solo n0 X w f c sp T) (hX : ∀ k, X k → k < w.heap.size) (h0 : n0 ≤ w.heap.size) (hs : sp.src[n]? = some s) (ho : s.opened = false) :
    Calls Tryz.prog 22 #[.pointer (some ⟨f, 0, none⟩), .int .i64 n] w fun e w' => e = .returned (.int .i64 0) ∧ Solo n0 X w' f c (sp.open n) T ∧ Kept (fun k => n0 ≤ k ∧ ¬ X k) w w' :=
  h.by hX h0 (fun F hF => (open_on f n c sp _ F T s w hF hs ho).mono (fun _ _ ⟨h1, h2, h3⟩ => ⟨h1, h2.up, h3⟩))
end Go.Proofs.YtcfngdnmpogaoaaGreat
namespace Go.Proofs.YtcfngdnmpogaoaaGreat
open Go.RowKit

def winQ (size slide : Int) (E : List Ev) (key : ByteArray) (s : Int) : Prop := ∃ e ∈ E, e.key = key ∧ slide ∣ s ∧ s ≤ e.t ∧ e.t < s + size
/-- All windows of E, in their order. -/
def AllW (size slide : Int) (E : List Ev) (ds : List Win) : Prop := WinSet size E (winQ size slide E) ds

def evsIn (size : Int) (E : List Ev) (x : Win) : List Ev := E.filter (inWin x.key x.start size)
theorem AllW.win {size slide : Int} {E : List Ev} {ds : List Win} (h : AllW size slide E ds) (hE : Fits E) {x : Win} (hx : x ∈ ds) : WinIs x x.key x.start (evsIn size E x) ∧ evsIn size E x ≠ [] ∧ slide ∣ x.start := by
  obtain ⟨key, s, ⟨e, he, rfl, h1, h2, h3⟩, rfl⟩ := (h.mem x).1 hx
  have hi := winF_is e.key s size E hE
  obtain ⟨k1, k2⟩ := winF_key e.key s size E
  unfold evsIn
  rw [k1, k2]
  refine ⟨hi, fun h0 => ?_, h1⟩
  have : e ∈ E.filter (inWin e.key s size) := List.mem_filter.2 ⟨he, (inWin_iff _ _ _ _).2 ⟨rfl, h2, h3⟩⟩
  rw [h0] at this
  cases this

/-- Distinct tags are no more than the events. -/
theorem rise_len : ∀ (l : List Nat) (m : List Nat), l.Pairwise (· < ·) → (∀ x ∈ l, x ∈ m) → l.length ≤ m.length
  | [], _, _, _ => Nat.zero_le _
  | a :: l, m, h, hm => by
    have ha := hm a (List.mem_cons_self ..)
    rw [List.pairwise_cons] at h
    have := rise_len l (m.erase a) h.2 (fun x hx => by
      have hne : x ≠ a := fun e => by have := h.1 x hx; omega
      exact (List.mem_erase_of_ne hne).2 (hm x (List.mem_cons_of_mem _ hx)))
    rw [List.length_erase_of_mem ha] at this
    have h0 : 0 < m.length := List.length_pos_of_mem ha
    rw [List.length_cons]
    omega
theorem WinIs.tagsLen {x : Win} {key : ByteArray} {s : Int} {W : List Ev} (h : WinIs x key s W) : x.tags.length ≤ W.length := by
  have := rise_len x.tags (W.map Ev.tag) h.rise (fun t ht => by
    obtain ⟨e, he, rfl⟩ := (h.tags t).1 ht
    exact List.mem_map.2 ⟨e, he, rfl⟩)
  rw [List.length_map] at this
  exact this

/-- Starts in the Size ahead of t. -/
def cntS (size slide t : Int) (j : Nat) : Nat := ((List.range j).filter fun i : Nat => decide ((t - size + 1 + (i : Int)).tmod slide = 0)).length
theorem cntS_succ (size slide t : Int) (j : Nat) : cntS size slide t (j + 1) = cntS size slide t j + if (t - size + 1 + (j : Int)).tmod slide = 0 then 1 else 0 := by
  unfold cntS
  rw [List.range_succ, List.filter_append, List.length_append]
  congr 1
  by_cases h : (t - size + 1 + (j : Int)).tmod slide = 0
  · simp [h]
  · simp [h]
theorem cntS_le (size slide t : Int) (j : Nat) : cntS size slide t j ≤ j := by
  unfold cntS
  have := List.length_filter_le (fun i : Nat => decide ((t - size + 1 + (i : Int)).tmod slide = 0)) (List.range j)
  rw [List.length_range] at this
  exact this

theorem sum_count {β : Type} (p : β → Bool) : ∀ (B : List β) (f : β → Nat), (B.map fun b => (if p b then 1 else 0) + f b).sum = (B.filter p).length + (B.map f).sum
  | [], _ => rfl
  | b :: B, f => by
    rw [List.map_cons, List.sum_cons, sum_count p B f, List.map_cons, List.sum_cons, List.filter_cons]
    by_cases h : p b = true
    · rw [if_pos h, if_pos h, List.length_cons]; omega
    · rw [if_neg h, if_neg h]; omega
theorem sum_swap {α β : Type} (p : α → β → Bool) : ∀ (A : List α) (B : List β), (A.map fun a => (B.filter (p a)).length).sum = (B.map fun b => (A.filter fun a => p a b).length).sum
  | [], B => by
    induction B with
    | nil => rfl
    | cons b B ih => rw [List.map_cons, List.sum_cons, ← ih]; rfl
  | a :: A, B => by
    rw [List.map_cons, List.sum_cons, sum_swap p A B, ← sum_count (p a) B]
    congr 1
    refine List.map_congr_left (fun b _ => ?_)
    rw [List.filter_cons]
    by_cases h : p a b = true
    · rw [if_pos h, if_pos h, List.length_cons]; omega
    · rw [if_neg h, if_neg h]; omega
theorem rise_eq : ∀ (a b : List Int), a.Pairwise (· < ·) → b.Pairwise (· < ·) → (∀ x, x ∈ a ↔ x ∈ b) → a.length = b.length := fun a b ha hb h => by
  have na : a.Nodup := ha.imp (fun h e => by omega)
  have nb : b.Nodup := hb.imp (fun h e => by omega)
  exact ((List.perm_ext_iff_of_nodup na nb).2 h).length_eq
theorem less_irr (k : ByteArray) : Op.bytesLess k.toList k.toList ≠ true := fun h => by
  have hx : ltW ⟨k, 0, 0, 0, 0, 0, []⟩ ⟨k, 0, 0, 0, 0, 0, []⟩ := (ltW_iff _ _).2 (.inr ⟨rfl, h⟩)
  exact ltW_irrefl _ hx
theorem AllW.each {size slide : Int} {E : List Ev} {ds : List Win} (h : AllW size slide E ds) (_h1 : 1 ≤ slide) (h2 : 0 ≤ size) {e : Ev} (he : e ∈ E) : (ds.filter fun x => inWin x.key x.start size e).length = cntS size slide e.t size.toNat := by
  have hl : (ds.filter fun x => inWin x.key x.start size e).length = ((ds.filter fun x => inWin x.key x.start size e).map Win.start).length := by rw [List.length_map]
  have hr : cntS size slide e.t size.toNat = (((List.range size.toNat).filter fun i : Nat => decide ((e.t - size + 1 + (i : Int)).tmod slide = 0)).map fun i : Nat => e.t - size + 1 + (i : Int)).length := by rw [List.length_map]; rfl
  rw [hl, hr]
  refine rise_eq _ _ ?_ ?_ (fun s => ?_)
  · rw [List.pairwise_map]
    have hp := List.Pairwise.filter (fun x => inWin x.key x.start size e) h.order
    refine List.Pairwise.imp_of_mem ?_ hp
    intro x y hx hy hlt
    have kx := ((inWin_iff _ _ _ _).1 (List.mem_filter.1 hx).2).1
    have ky := ((inWin_iff _ _ _ _).1 (List.mem_filter.1 hy).2).1
    rcases (ltW_iff x y).1 hlt with h | ⟨_, h⟩
    · exact h
    · rw [← kx, ← ky] at h
      exact absurd h (less_irr _)
  · rw [List.pairwise_map]
    refine List.Pairwise.filter _ ?_
    exact (List.pairwise_lt_range (n := size.toNat)).imp (fun h => by omega)
  · constructor
    · intro hs
      obtain ⟨x, hx, rfl⟩ := List.mem_map.1 hs
      obtain ⟨hxd, hxi⟩ := List.mem_filter.1 hx
      obtain ⟨_, q1, q2⟩ := (inWin_iff _ _ _ _).1 hxi
      obtain ⟨key, s, ⟨_, _, _, hd, _⟩, rfl⟩ := (h.mem x).1 hxd
      rw [(winF_key key s size E).2] at q1 q2 ⊢
      have hz : (((s - (e.t - size + 1)).toNat : Nat) : Int) = s - (e.t - size + 1) := Int.toNat_of_nonneg (by omega)
      refine List.mem_map.2 ⟨(s - (e.t - size + 1)).toNat, List.mem_filter.2 ⟨List.mem_range.2 (by omega), decide_eq_true ?_⟩, by omega⟩
      rw [hz, show e.t - size + 1 + (s - (e.t - size + 1)) = s by omega]
      exact Int.tmod_eq_zero_of_dvd hd
    · intro hs
      obtain ⟨i, hi, rfl⟩ := List.mem_map.1 hs
      obtain ⟨hi1, hi2⟩ := List.mem_filter.1 hi
      have hi1 := List.mem_range.1 hi1
      have hd : slide ∣ e.t - size + 1 + (i : Int) := Int.dvd_of_tmod_eq_zero (of_decide_eq_true hi2)
      obtain ⟨s, hs⟩ : ∃ s, e.t - size + 1 + (i : Int) = s := ⟨_, rfl⟩
      rw [hs] at hd ⊢
      have q1 : s ≤ e.t ∧ e.t < s + size := by omega
      refine List.mem_map.2 ⟨winF e.key s size E, List.mem_filter.2 ⟨(h.mem _).2 ⟨e.key, s, ⟨e, he, rfl, hd, q1.1, q1.2⟩, rfl⟩, ?_⟩, (winF_key e.key s size E).2⟩
      rw [(winF_key e.key s size E).1, (winF_key e.key s size E).2]
      exact (inWin_iff _ _ _ _).2 ⟨rfl, q1.1, q1.2⟩
/-- How many events the windows hold in all. -/
theorem AllW.total {size slide : Int} {E : List Ev} {ds : List Win} (h : AllW size slide E ds) (h1 : 1 ≤ slide) (h2 : 0 ≤ size) : (ds.map fun x => (evsIn size E x).length).sum = (E.map fun e => cntS size slide e.t size.toNat).sum := by
  have hs := sum_swap (fun (x : Win) (e : Ev) => inWin x.key x.start size e) ds E
  refine hs.trans (congrArg List.sum (List.map_congr_left (fun e he => h.each h1 h2 he)))
theorem sum_le {α : Type} (f : α → Nat) (b : Nat) : ∀ l : List α, (∀ x ∈ l, f x ≤ b) → (l.map f).sum ≤ l.length * b
  | [], _ => by simp
  | x :: l, h => by
    have h1 := h x (List.mem_cons_self ..)
    have h2 := sum_le f b l (fun y hy => h y (List.mem_cons_of_mem _ hy))
    rw [List.map_cons, List.sum_cons, List.length_cons, Nat.add_mul]
    omega
theorem sum_take_le {α : Type} (f : α → Nat) (k : Nat) (l : List α) : ((l.take k).map f).sum ≤ (l.map f).sum := by
  conv => rhs; rw [← List.take_append_drop k l, List.map_append, List.sum_append]
  omega
theorem sum_take_succ {α : Type} (f : α → Nat) {k : Nat} {l : List α} {x : α} (h : l[k]? = some x) : ((l.take (k + 1)).map f).sum = ((l.take k).map f).sum + f x := by
  obtain ⟨hk, rfl⟩ := List.getElem?_eq_some_iff.1 h
  rw [List.take_succ_eq_append_getElem hk, List.map_append, List.sum_append]
  simp
theorem len_le_sum {α : Type} (f : α → Nat) : ∀ l : List α, (∀ x ∈ l, 1 ≤ f x) → l.length ≤ (l.map f).sum
  | [], _ => by simp
  | x :: l, h => by
    have h1 := h x (List.mem_cons_self ..)
    have h2 := len_le_sum f l (fun y hy => h y (List.mem_cons_of_mem _ hy))
    rw [List.map_cons, List.sum_cons, List.length_cons]
    omega
theorem AllW.sums {size slide : Int} {E : List Ev} {ds : List Win} (h : AllW size slide E ds) (h1 : 1 ≤ slide) (h2 : 0 ≤ size) : (ds.map fun x => (evsIn size E x).length).sum ≤ E.length * size.toNat := by
  rw [h.total h1 h2]
  exact sum_le _ _ E (fun e _ => cntS_le size slide e.t size.toNat)
theorem AllW.len {size slide : Int} {E : List Ev} {ds : List Win} (h : AllW size slide E ds) (hF : Fits E) (h1 : 1 ≤ slide) (h2 : 0 ≤ size) : ds.length ≤ E.length * size.toNat :=
  Nat.le_trans (len_le_sum (fun x => (evsIn size E x).length) ds (fun _ hx => List.length_pos_iff.2 (h.win hF hx).2.1)) (h.sums h1 h2)
theorem filter_take1 {α : Type} (p : α → Bool) {k : Nat} {l : List α} {x : α} (h : l[k]? = some x) : (l.take (k + 1)).filter p = if p x then (l.take k).filter p ++ [x] else (l.take k).filter p := by
  obtain ⟨hk, rfl⟩ := List.getElem?_eq_some_iff.1 h
  rw [List.take_succ_eq_append_getElem hk, List.filter_append, List.filter_cons, List.filter_nil]
  split
  · rfl
  · rw [List.append_nil]
end Go.Proofs.YtcfngdnmpogaoaaGreat
namespace Go.Proofs.YtcfngdnmpogaoaaGreat
open Go.RowKit

end Go.Proofs.YtcfngdnmpogaoaaGreat
