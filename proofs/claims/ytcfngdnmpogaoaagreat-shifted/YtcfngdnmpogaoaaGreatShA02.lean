import Derived.Test.YtcfngdnmpogaoaaGreatShS01
namespace Go.Proofs.YtcfngdnmpogaoaaGreat
open Go.RowKit

def shE (d : Int) (e : Ev) : Ev := ⟨e.key, e.t + d, e.v, e.tag⟩
def shS (d : Int) (s : SrcS) : SrcS := ⟨s.opened, s.broken, if s.is then s.time + d else s.time, s.is⟩
def shP (d : Int) (m : Int × Bool) : Int × Bool := (if m.2 then m.1 + d else m.1, m.2)
def shSp (d : Int) (sp : Sp) : Sp := ⟨sp.src.map (shS d), sp.E.map (shE d), if sp.li then sp.lt + d else sp.lt, sp.li, sp.n⟩
def shW (d : Int) (x : Win) : Win := ⟨x.key, x.start + d, x.cnt, x.sum, x.lo, x.hi, x.tags⟩

theorem inWin_sh (d : Int) (key : ByteArray) (s size : Int) (e : Ev) : inWin key (s + d) size (shE d e) = inWin key s size e := by
  have h1 : decide (s + d ≤ e.t + d) = decide (s ≤ e.t) := by rw [decide_eq_decide]; omega
  have h2 : decide (e.t + d ≤ s + d + size - 1) = decide (e.t ≤ s + size - 1) := by rw [decide_eq_decide]; omega
  show (keyEq e.key key && (decide (s + d ≤ e.t + d) && decide (e.t + d ≤ s + d + size - 1))) = _
  rw [h1, h2]; rfl
theorem winF_sh (d : Int) (key : ByteArray) (s size : Int) (E : List Ev) : winF key (s + d) size (E.map (shE d)) = shW d (winF key s size E) := by
  induction E using snoc_ind with
  | nil => rfl
  | snoc E e ih =>
    rw [List.map_append, List.map_cons, List.map_nil, winF_snoc, winF_snoc, ih]
    unfold winStep
    rw [inWin_sh]
    split
    · rfl
    · rfl
theorem least_sh (d : Int) (l : List SrcS) : ∀ m : Int × Bool, (l.map (shS d)).foldl leastStepS (shP d m) = shP d (l.foldl leastStepS m) := by
  induction l with
  | nil => intro m; rfl
  | cons s l ih =>
    intro m
    rw [List.map_cons, List.foldl_cons, List.foldl_cons, ← ih]
    congr 1
    obtain ⟨a, b⟩ := m
    obtain ⟨o, r, t, i⟩ := s
    cases i with
    | false => rfl
    | true =>
      cases b with
      | false => rfl
      | true =>
        have h1 : decide (t + d < a + d) = decide (t < a) := by rw [decide_eq_decide]; omega
        show (if (true && (!true || decide (t + d < a + d))) = true then (t + d, true) else (a + d, true)) = shP d (if (true && (!true || decide (t < a))) = true then (t, true) else (a, true))
        rw [h1]
        cases decide (t < a) with
        | true => rfl
        | false => rfl
theorem leastS_sh (d : Int) (l : List SrcS) : leastS (l.map (shS d)) = shP d (leastS l) := least_sh d l (0, false)
theorem lineF_sh (d late : Int) (l : List SrcS) (lt : Int) (li : Bool) : lineF late (l.map (shS d)) (if li then lt + d else lt) li = shP d (lineF late l lt li) := by
  unfold lineF
  rw [leastS_sh]
  obtain ⟨a, b⟩ := leastS l
  cases b with
  | false => rfl
  | true =>
    cases li with
    | false =>
      show (if false = false ∨ lt < a + d - late then a + d - late else lt, true) = shP d (if false = false ∨ lt < a - late then a - late else lt, true)
      rw [if_pos (.inl rfl), if_pos (.inl rfl)]
      show (a + d - late, true) = (a - late + d, true)
      rw [Prod.mk.injEq]
      exact ⟨by omega, rfl⟩
    | true =>
      show (if true = false ∨ lt + d < a + d - late then a + d - late else lt + d, true) = shP d (if true = false ∨ lt < a - late then a - late else lt, true)
      by_cases h : lt < a - late
      · rw [if_pos (.inr (by omega)), if_pos (.inr h)]
        show (a + d - late, true) = (a - late + d, true)
        rw [Prod.mk.injEq]
        exact ⟨by omega, rfl⟩
      · rw [if_neg (by rintro (h1 | h1); cases h1; omega), if_neg (by rintro (h1 | h1); cases h1; omega)]
        rfl
theorem line_sh (d : Int) (c : Cf) (sp : Sp) : (shSp d sp).line c = shSp d (sp.line c) := by
  have h := lineF_sh d c.late sp.src sp.lt sp.li
  unfold Sp.line shSp
  simp only
  rw [h]
  rfl
theorem modify_sh (d x : Int) (l : List SrcS) (n : Nat) : (l.map (shS d)).modify n (raisedS (x + d)) = (l.modify n (raisedS x)).map (shS d) := by
  apply List.ext_getElem?
  intro i
  rw [List.getElem?_modify, List.getElem?_map, List.getElem?_map, List.getElem?_modify]
  cases l[i]? with
  | none => rfl
  | some s =>
    show some _ = some _
    congr 1
    split
    · obtain ⟨o, r, t, b⟩ := s
      cases b with
      | false => rfl
      | true =>
        unfold raisedS shS
        simp only [if_true, Bool.true_eq_false, false_or]
        by_cases h : t < x
        · rw [if_pos (by omega), if_pos h]; rfl
        · rw [if_neg (by omega), if_neg h]; rfl
    · rfl
theorem raise_sh (d x : Int) (sp : Sp) (n : Nat) : (shSp d sp).raise n (x + d) = shSp d (sp.raise n x) := by
  unfold Sp.raise shSp
  simp only
  rw [modify_sh]
end Go.Proofs.YtcfngdnmpogaoaaGreat
namespace Go.Proofs.YtcfngdnmpogaoaaGreat
open Go.RowKit

theorem down_sh (d n t : Int) (hd : n ∣ d) : down (t + d) n = down t n + d := by
  obtain ⟨q, rfl⟩ := hd
  unfold down
  rw [Int.add_mul_emod_self_left]
  omega
theorem behind_sh (d size slide lt : Int) (li : Bool) (e : Ev) (hd : slide ∣ d) : behind size slide (if li then lt + d else lt) li (shE d e) = behind size slide lt li e := by
  unfold behind winLast
  cases li with
  | false => rfl
  | true =>
    show (true && decide (down (e.t + d) slide + size ≤ lt + d)) = _
    rw [down_sh d slide e.t hd]
    have : decide (down e.t slide + d + size ≤ lt + d) = decide (down e.t slide + size ≤ lt) := by rw [decide_eq_decide]; omega
    rw [this]
theorem goKeys_sh (d size slide lt : Int) (li : Bool) (E : List Ev) (hd : slide ∣ d) : goKeys size slide (if li then lt + d else lt) li (E.map (shE d)) = goKeys size slide lt li E := by
  induction E using snoc_ind with
  | nil => rfl
  | snoc E e ih =>
    rw [List.map_append, List.map_cons, List.map_nil, goKeys_snoc, goKeys_snoc, ih, behind_sh d size slide lt li e hd]
    rfl
theorem many_sh (d : Int) (c : Cf) (sp : Sp) (hd : c.slide ∣ d) : (shSp d sp).many c = sp.many c := by
  unfold Sp.many shSp
  simp only
  rw [goKeys_sh d c.size c.slide sp.lt sp.li sp.E hd]
theorem isGo_sh (d : Int) (c : Cf) (sp : Sp) (key : ByteArray) (hd : c.slide ∣ d) : (shSp d sp).isGo c key = sp.isGo c key := by
  unfold Sp.isGo shSp
  simp only
  rw [List.any_map]
  congr 1
  funext e
  show (!behind c.size c.slide (if sp.li then sp.lt + d else sp.lt) sp.li (shE d e) && keyEq e.key key) = _
  rw [behind_sh d c.size c.slide sp.lt sp.li e hd]
theorem event_sh (d : Int) (c : Cf) (sp : Sp) (n : Nat) (e : Ev) (hd : c.slide ∣ d) (h1 : outB e = false) (h2 : outB (shE d e) = false) : (shSp d sp).event0 c n (shE d e) = shSp d (sp.event0 c n e) := by
  unfold Sp.event0
  rw [h1, h2, many_sh d c sp hd, show (shE d e).key = e.key from rfl, isGo_sh d c sp e.key hd]
  have hl : ((shSp d sp).li && decide ((shE d e).t < (shSp d sp).lt)) = (sp.li && decide (e.t < sp.lt)) := by
    unfold shSp shE
    simp only
    cases sp.li with
    | false => rfl
    | true =>
      show (true && decide (e.t + d < sp.lt + d)) = _
      have : decide (e.t + d < sp.lt + d) = decide (e.t < sp.lt) := by rw [decide_eq_decide]; omega
      rw [this]
  rw [hl]
  simp only [Bool.false_eq_true, if_false]
  split
  · exact raise_sh d e.t { sp with n := { sp.n with late := wrap64 (sp.n.late + 1) } } n
  · split
    · rfl
    · have h := raise_sh d e.t { sp with E := sp.E ++ [e], n := { sp.n with taken := wrap64 (sp.n.taken + 1) } } n
      rw [← h]
      unfold shSp
      simp only [List.map_append, List.map_cons, List.map_nil]
      rfl
theorem mark_sh (d t : Int) (sp : Sp) (n : Nat) (h1 : clampT t = t) (h2 : clampT (t + d) = t + d) : (shSp d sp).mark0 n (t + d) = shSp d (sp.mark0 n t) := by
  unfold Sp.mark0
  rw [h1, h2]
  exact raise_sh d t { sp with n := { sp.n with marks := wrap64 (sp.n.marks + 1) } } n
/-- The windows that are told, later by as much. -/
theorem done_sh (d size slide lt : Int) (li : Bool) (E : List Ev) (ds : List Win) (hd : slide ∣ d) (h : DoneOk size slide none lt li E ds) : DoneOk size slide none (if li then lt + d else lt) li (E.map (shE d)) (ds.map (shW d)) := by
  refine ⟨List.pairwise_map.2 (h.order.imp (fun {a b} hab => ?_)), fun x => ?_⟩
  · rw [ltW_iff] at hab ⊢
    have e1 : (shW d a).start = a.start + d := rfl
    have e2 : (shW d b).start = b.start + d := rfl
    rw [e1, e2]
    rcases hab with h1 | ⟨h1, h2⟩
    · exact .inl (by omega)
    · exact .inr ⟨by omega, h2⟩
  · rw [List.mem_map]
    constructor
    · rintro ⟨y, hy, rfl⟩
      obtain ⟨k, s, ⟨q1, ⟨e, he, q2, q3, q4, q5⟩, q6, q7⟩, rfl⟩ := (h.mem y).1 hy
      refine ⟨k, s + d, ⟨q1, ⟨shE d e, List.mem_map.2 ⟨e, he, rfl⟩, q2, Int.dvd_add q3 hd, ?_, ?_⟩, ?_, rfl⟩, (winF_sh d k s size E).symm⟩
      · show s + d ≤ e.t + d; omega
      · show e.t + d < s + d + size; omega
      · rw [q1, if_pos rfl]; omega
    · rintro ⟨k, s, ⟨q1, ⟨e, he, q2, q3, q4, q5⟩, q6, q7⟩, rfl⟩
      obtain ⟨e, he', rfl⟩ := List.mem_map.1 he
      have q4 : s ≤ e.t + d := q4
      have q5 : e.t + d < s + size := q5
      rw [q1, if_pos rfl] at q6
      refine ⟨winF k (s - d) size E, (h.mem _).2 ⟨k, s - d, ⟨q1, ⟨e, he', q2, Int.dvd_sub q3 hd, by omega, by omega⟩, by omega, rfl⟩, rfl⟩, ?_⟩
      rw [← winF_sh, Int.sub_add_cancel]
end Go.Proofs.YtcfngdnmpogaoaaGreat
namespace Go.Proofs.YtcfngdnmpogaoaaGreat
open Go.RowKit

theorem Duo.fed {n0 : Nat} {X : Nat → Prop} {w : World} {f g : Nat} {c : Cf} {sp : Sp} {rs : List (List UInt8)} {T : Option Int} {b : FSt} (n : Nat) (ev : Ev) (s : SrcS) (h : Duo n0 X w f g c (sp, rs, T) b) (hX : ∀ k, X k → k < w.heap.size) (h0 : n0 ≤ w.heap.size) (hE : EvB ev) (hs : sp.src[n]? = some s) (ho : s.opened = true) (hbr : s.broken = false) (hl0 : rs[n]? = some []) (hl : sp.E.length < 80000000) :
    Calls Tryz.prog 24 #[.pointer (some ⟨f, 0, none⟩), .int .i64 n, evItemV ev] w fun e w' => e = .returned (.bool true) ∧ Duo n0 X w' f g c ((sp.event0 c n ev).line c, rs, T) b ∧ Kept (fun k => n0 ≤ k ∧ ¬ X k) w w' :=
  h.left (a' := ((sp.event0 c n ev).line c, rs, T)) hX h0 (fun _ hF => (fed_on f n c sp rs _ T ev s w hF.lt (fun _ hk => hk.2) hE hs ho hbr hl0 hl).mono (fun _ _ ⟨h1, h2, h3⟩ => ⟨h1, h2.mono (fun _ hk => hk.imp (fun q => q.1) id), h3.mono (fun _ _ hk => hk.1)⟩))
theorem Duo.mark {n0 : Nat} {X : Nat → Prop} {w : World} {f g : Nat} {c : Cf} {sp : Sp} {rs : List (List UInt8)} {T : Option Int} {b : FSt} (n : Nat) (t : Int) (bv : Value) (s : SrcS) (h : Duo n0 X w f g c (sp, rs, T) b) (hX : ∀ k, X k → k < w.heap.size) (h0 : n0 ≤ w.heap.size) (t1 : -9223372036854775808 ≤ t) (t2 : t < 9223372036854775808) (hb : Row w 5 1 bv ((markB t).map byteV)) (hs : sp.src[n]? = some s) (ho : s.opened = true) (hbr : s.broken = false) (hl0 : rs[n]? = some []) (hl : sp.E.length < 80000000) :
    Calls Tryz.prog 20 #[.pointer (some ⟨f, 0, none⟩), .int .i64 n, bv] w fun e w' => e = .returned (.int .i64 0) ∧ Duo n0 X w' f g c ((sp.mark0 n t).line c, rs, T) b ∧ Kept (fun k => n0 ≤ k ∧ ¬ X k) w w' :=
  h.left (a' := ((sp.mark0 n t).line c, rs, T)) hX h0 (fun F hF => by
    have hlen : (markB t).length ≤ 100 := by
      have h2 := frame_len (kind := 2) (key := ⟨#[]⟩) (time := t) (value := 0) (tag := 0) item_mark2
      obtain ⟨h3, h4⟩ := itemBody_len (kind := 2) (key := ⟨#[]⟩) (time := t) (value := 0) (tag := 0) item_mark2
      unfold markB
      omega
    have h1 := feed_on f n c sp rs F T bv (markB t) [] s w hF hs ho hbr hl0 hb (by omega)
    rw [List.nil_append] at h1
    have h2 := (feed_mk c n (markB t).length sp t t1 t2 []).1
    rw [List.append_nil, feedF_void] at h2
    rw [h2, set_void rs n hl0] at h1
    exact h1)
end Go.Proofs.YtcfngdnmpogaoaaGreat
namespace Go.Proofs.YtcfngdnmpogaoaaGreat
open Go.RowKit

theorem event_open (c : Cf) (sp : Sp) (n : Nat) (e : Ev) (s : SrcS) (hs : sp.src[n]? = some s) (ho : s.opened = true) (hb : s.broken = false) : ∃ s', ((sp.event0 c n e).line c).src[n]? = some s' ∧ s'.opened = true ∧ s'.broken = false := by
  have hr : ∀ x, ∃ s', (sp.src.modify n (raisedS x))[n]? = some s' ∧ s'.opened = true ∧ s'.broken = false := fun x => by
    refine ⟨raisedS x s, by rw [List.getElem?_modify, hs]; simp, ?_, ?_⟩
    · rw [raisedS_opened]; exact ho
    · unfold raisedS; split
      · exact hb
      · exact hb
  rw [line_src]
  unfold Sp.event0 Sp.raise
  (repeat' split)
  · exact ⟨s, hs, ho, hb⟩
  · exact hr _
  · exact ⟨s, hs, ho, hb⟩
  · exact hr _
theorem event_mem (c : Cf) (sp : Sp) (n : Nat) (e : Ev) {x : Ev} (h : x ∈ ((sp.event0 c n e).line c).E) : x ∈ sp.E ∨ x = e := by
  rw [line_E] at h
  unfold Sp.event0 Sp.raise at h
  (repeat' split at h)
  · exact .inl h
  · exact .inl h
  · exact .inl h
  · rcases List.mem_append.1 h with h | h
    · exact .inl h
    · exact .inr (List.mem_singleton.1 h)
theorem event_len (c : Cf) (sp : Sp) (n : Nat) (e : Ev) : ((sp.event0 c n e).line c).E.length ≤ sp.E.length + 1 := by
  rw [line_E]; exact event0_len c sp n e

def shX (d : Int) (x : WinX) : WinX := ⟨shW d x.w, x.tv⟩
def laterX (d : Int) (k : Nat) (ys : List WinX) : List WinX := (ys.take k).map (shX d) ++ ys.drop k
theorem laterX_len (d : Int) (k : Nat) (ys : List WinX) : (laterX d k ys).length = ys.length := by
  unfold laterX
  rw [List.length_append, List.length_map, List.length_take, List.length_drop]; omega
theorem laterX_all (d : Int) (ys : List WinX) : (laterX d ys.length ys).map WinX.w = (ys.map WinX.w).map (shW d) := by
  unfold laterX
  rw [List.take_length, List.drop_length, List.append_nil, List.map_map, List.map_map]
  rfl
theorem laterX_at (d : Int) (k : Nat) (ys : List WinX) (h : k < ys.length) : (laterX d k ys)[k]? = some ys[k] := by
  unfold laterX
  have hl : ((ys.take k).map (shX d)).length = k := by rw [List.length_map, List.length_take]; omega
  rw [List.getElem?_append_right (by omega), hl, Nat.sub_self, List.drop_eq_getElem_cons h]
  rfl
theorem laterX_step (d : Int) (k : Nat) (ys : List WinX) (h : k < ys.length) : (laterX d k ys).set k (shX d ys[k]) = laterX d (k + 1) ys := by
  unfold laterX
  have hl : ((ys.take k).map (shX d)).length = k := by rw [List.length_map, List.length_take]; omega
  rw [List.set_append, if_neg (by omega), hl, Nat.sub_self, List.drop_eq_getElem_cons h, List.set_cons_zero, List.take_succ_eq_append_getElem h, List.map_append, List.append_assoc]
  rfl
theorem laterX_tv (d : Int) (k : Nat) (ys : List WinX) {x : WinX} (h : x ∈ laterX d k ys) : ∃ y ∈ ys, y.tv = x.tv := by
  unfold laterX at h
  rcases List.mem_append.1 h with h | h
  · obtain ⟨y, hy, rfl⟩ := List.mem_map.1 h
    exact ⟨y, List.mem_of_mem_take hy, rfl⟩
  · exact ⟨x, List.mem_of_mem_drop h, rfl⟩
theorem winFlat_set (d : Int) (l : List WinX) : ∀ (j : Nat) (h : j < l.length), (l.set j (shX d l[j])).flatMap wxCells = (l.flatMap wxCells).set (j * 7 + 1) (.int .i64 (l[j].w.start + d)) := by
  induction l with
  | nil => intro j h; exact absurd h (Nat.not_lt_zero _)
  | cons a l ih =>
    intro j h
    cases j with
    | zero => rfl
    | succ j =>
      have ha : (wxCells a).length = 7 := rfl
      rw [List.set_cons_succ, List.flatMap_cons, List.flatMap_cons, List.getElem_cons_succ, ih j (by simpa using h), List.set_append, if_neg (by omega), ha]
      congr 2
      omega
theorem WinsAt.later {w : World} {g off n cap : Nat} {ys : List WinX} (d : Int) (k : Nat) (h : WinsAt w (.slice (some ⟨g, off, none⟩) n cap) (laterX d k ys) 0) (hk : k < ys.length) : WinsAt (w.setCell ⟨g, off + (k * 7 + 1), none⟩ (.int .i64 (ys[k].w.start + d))) (.slice (some ⟨g, off, none⟩) n cap) (laterX d (k + 1) ys) 0 := by
  have hl := laterX_len d k ys
  have h1 : (laterX d k ys)[k]'(by omega) = ys[k] := by
    have := laterX_at d k ys hk
    rw [List.getElem?_eq_getElem (by omega)] at this
    exact Option.some.inj this
  have hf := winFlat_set d (laterX d k ys) k (by omega)
  rw [h1, laterX_step d k ys hk] at hf
  have hr := h.row.put (k * 7 + 1) (by rw [winFlat_len]; omega) (.int .i64 (ys[k].w.start + d))
  rw [← hf] at hr
  refine ⟨hr, fun x hx => ?_, fun _ _ => Nat.zero_le _, fun he => ?_⟩
  · obtain ⟨y, hy, e⟩ := laterX_tv d (k + 1) ys hx
    have hy' : ∃ z ∈ laterX d k ys, z.tv = x.tv ∧ z.w.tags = x.w.tags := by
      have hx' := hx
      rw [← laterX_step d k ys hk] at hx'
      rcases List.mem_or_eq_of_mem_set hx' with h2 | h2
      · exact ⟨x, h2, rfl, rfl⟩
      · exact ⟨ys[k], List.mem_of_getElem? (laterX_at d k ys hk), by rw [h2]; rfl, by rw [h2]; rfl⟩
    obtain ⟨z, hz, e1, e2⟩ := hy'
    obtain ⟨t1, t2⟩ := h.tags z hz
    rw [e1, e2] at t1
    refine ⟨t1.setCell _ _ (fun hb => ?_), fun _ _ => Nat.zero_le _⟩
    exact h.row.apart t1 (by decide) rfl hb
  · have := laterX_len d (k + 1) ys
    rw [he] at this
    simp at this
    omega
theorem DoneOk.bound {size slide lt : Int} {T : Option Int} {li : Bool} {E : List Ev} {ds : List Win} (h : DoneOk size slide T lt li E ds) (hE : ∀ e ∈ E, -500 ≤ e.t ∧ e.t < 500) {x : Win} (hx : x ∈ ds) : -500 - size < x.start ∧ x.start < 500 := by
  obtain ⟨key, s, ⟨_, ⟨e, he, _, _, h1, h2⟩, _⟩, rfl⟩ := (h.mem x).1 hx
  have := hE e he
  rw [(winF_key key s size E).2]
  omega
end Go.Proofs.YtcfngdnmpogaoaaGreat
