import Derived.Test.YtcfngdnmpogaoaaGreatPcS01
namespace Go.Proofs.YtcfngdnmpogaoaaGreat
open Go.RowKit

theorem unf_app (A B : List UInt8) (h : unfShort A = false) : (A ++ B).getD 0 0 = A.getD 0 0 ∧ unfShort (A ++ B) = false ∧ unfBody (A ++ B) = unfBody A ∧ unfOk (A ++ B) = unfOk A ∧ (A ++ B).drop ((A.getD 0 0).toNat + 3) = A.drop ((A.getD 0 0).toNat + 3) ++ B ∧ (A.getD 0 0).toNat + 3 ≤ A.length := by
  unfold unfShort at h
  rw [decide_eq_false_iff_not] at h
  have hl : (A.getD 0 0).toNat + 3 ≤ A.length := by omega
  have e0 : (A ++ B).getD 0 0 = A.getD 0 0 := by
    rw [List.getD_eq_getElem?_getD, List.getD_eq_getElem?_getD, List.getElem?_append_left (by omega)]
  have e1 : unfBody (A ++ B) = unfBody A := by
    unfold unfBody
    rw [e0, List.drop_append_of_le_length (by omega), List.take_append_of_le_length (by rw [List.length_drop]; omega)]
  refine ⟨e0, ?_, e1, ?_, ?_, hl⟩
  · unfold unfShort
    rw [e0, decide_eq_false_iff_not, List.length_append]; omega
  · unfold unfOk unfCrc
    rw [e1, e0, List.drop_append_of_le_length (by omega), List.take_append_of_le_length (by rw [List.length_drop]; omega)]
  · rw [List.drop_append_of_le_length hl]
theorem itemF_body (c : Cf) (sp : Sp) (n : Nat) (A B : List UInt8) (h : unfBody A = unfBody B) : itemF c sp n A = itemF c sp n B := by unfold itemF; rw [h]

/-- Is a source broken off on the way? -/
def feedB (c : Cf) (n : Nat) : Nat → Sp → List UInt8 → Bool
  | 0, _, _ => false
  | f + 1, sp, L => if unfShort L then false else if unfOk L then feedB c n f (itemF c sp n L) (L.drop ((L.getD 0 0).toNat + 3)) else true

theorem feedF_fuel (c : Cf) (n : Nat) : ∀ (f g : Nat) (sp : Sp) (L : List UInt8), L.length < f → L.length < g → feedF c n f sp L = feedF c n g sp L ∧ feedB c n f sp L = feedB c n g sp L
  | 0, _, _, _, h, _ => absurd h (by omega)
  | _ + 1, 0, _, _, _, h => absurd h (by omega)
  | f + 1, g + 1, sp, L, h1, h2 => by
    rw [feedF, feedF, feedB, feedB]
    cases hs : unfShort L with
    | true => exact ⟨rfl, rfl⟩
    | false =>
      cases ho : unfOk L with
      | false => exact ⟨rfl, rfl⟩
      | true =>
        have hl := (unf_app L [] hs).2.2.2.2.2
        simp only [Bool.false_eq_true, if_false, if_true]
        exact feedF_fuel c n f g _ _ (by rw [List.length_drop]; omega) (by rw [List.length_drop]; omega)

theorem feedF_app (c : Cf) (n : Nat) : ∀ (f F : Nat) (sp : Sp) (A B : List UInt8), A.length < f → (A ++ B).length < F →
    feedF c n F sp (A ++ B) = (if feedB c n f sp A then feedF c n f sp A else feedF c n F (feedF c n f sp A).1 ((feedF c n f sp A).2 ++ B)) ∧
    feedB c n F sp (A ++ B) = (feedB c n f sp A || feedB c n F (feedF c n f sp A).1 ((feedF c n f sp A).2 ++ B)) ∧ ((feedF c n f sp A).2.length ≤ A.length)
  | 0, _, _, _, _, h, _ => absurd h (by omega)
  | _ + 1, 0, _, _, _, _, h => absurd h (by omega)
  | f + 1, F + 1, sp, A, B, h1, h2 => by
    cases hs : unfShort A with
    | true =>
      have e1 : feedF c n (f + 1) sp A = (sp, A) := by rw [feedF, hs]; rfl
      have e2 : feedB c n (f + 1) sp A = false := by rw [feedB, hs]; rfl
      rw [e1, e2]
      exact ⟨rfl, rfl, Nat.le_refl _⟩
    | false =>
      obtain ⟨u0, u1, u2, u3, u4, u5⟩ := unf_app A B hs
      cases ho : unfOk A with
      | false =>
        have e1 : feedF c n (f + 1) sp A = ((sp.break0 n).line c, []) := by rw [feedF, hs, ho]; rfl
        have e2 : feedB c n (f + 1) sp A = true := by rw [feedB, hs, ho]; rfl
        rw [e1, e2, feedF, feedB, u1, u3, ho]
        exact ⟨rfl, rfl, Nat.zero_le _⟩
      | true =>
        have e1 : feedF c n (f + 1) sp A = feedF c n f (itemF c sp n A) (A.drop ((A.getD 0 0).toNat + 3)) := by rw [feedF, hs, ho]; rfl
        have e2 : feedB c n (f + 1) sp A = feedB c n f (itemF c sp n A) (A.drop ((A.getD 0 0).toNat + 3)) := by rw [feedB, hs, ho]; rfl
        have e3 : feedF c n (F + 1) sp (A ++ B) = feedF c n F (itemF c sp n A) (A.drop ((A.getD 0 0).toNat + 3) ++ B) := by rw [feedF, u1, u3, ho, u0, u4, itemF_body c sp n _ _ u2]; rfl
        have e4 : feedB c n (F + 1) sp (A ++ B) = feedB c n F (itemF c sp n A) (A.drop ((A.getD 0 0).toNat + 3) ++ B) := by rw [feedB, u1, u3, ho, u0, u4, itemF_body c sp n _ _ u2]; rfl
        have hd : (A.drop ((A.getD 0 0).toNat + 3)).length < f := by rw [List.length_drop]; omega
        have hd2 : (A.drop ((A.getD 0 0).toNat + 3) ++ B).length < F := by rw [List.length_append] at *; rw [List.length_drop]; omega
        obtain ⟨i1, i2, i3⟩ := feedF_app c n f F (itemF c sp n A) (A.drop ((A.getD 0 0).toNat + 3)) B hd hd2
        have hle : (A.drop ((A.getD 0 0).toNat + 3)).length ≤ A.length := by rw [List.length_drop]; omega
        rw [e1, e2, e3, e4]
        have hR : ((feedF c n f (itemF c sp n A) (A.drop ((A.getD 0 0).toNat + 3))).2 ++ B).length < F := by rw [List.length_append] at *; omega
        obtain ⟨k1, k2⟩ := feedF_fuel c n F (F + 1) (feedF c n f (itemF c sp n A) (A.drop ((A.getD 0 0).toNat + 3))).1 ((feedF c n f (itemF c sp n A) (A.drop ((A.getD 0 0).toNat + 3))).2 ++ B) hR (by omega)
        rw [← k1, ← k2]
        exact ⟨i1, i2, Nat.le_trans i3 hle⟩

/-- Whether the source is still there behind the bytes. -/
theorem feedB_src (c : Cf) (n : Nat) : ∀ (f : Nat) (sp : Sp) (L : List UInt8) (s : SrcS), sp.src[n]? = some s → s.opened = true → s.broken = false → ∃ s', (feedF c n f sp L).1.src[n]? = some s' ∧ s'.opened = true ∧ s'.broken = feedB c n f sp L
  | 0, sp, _, s, hs, ho, hb => ⟨s, hs, ho, hb⟩
  | f + 1, sp, L, s, hs, ho, hb => by
    rw [feedF, feedB]
    cases h1 : unfShort L with
    | true => exact ⟨s, hs, ho, hb⟩
    | false =>
      cases h2 : unfOk L with
      | false =>
        simp only [Bool.false_eq_true, if_false]
        refine ⟨⟨true, true, 0, false⟩, ?_, rfl, rfl⟩
        rw [line_src]
        exact modify_at _ hs
      | true =>
        simp only [Bool.false_eq_true, if_false, if_true]
        obtain ⟨s', a1, a2, a3⟩ := itemF_open c sp n L s hs ho hb
        exact feedB_src c n f _ _ s' a1 a2 a3
end Go.Proofs.YtcfngdnmpogaoaaGreat
namespace Go.Proofs.YtcfngdnmpogaoaaGreat
open Go.RowKit

/-- An event that can be framed. -/
structure EvB (e : Ev) : Prop where
  k1 : 1 ≤ e.key.size
  k2 : e.key.size ≤ 8
  t1 : -9223372036854775808 ≤ e.t
  t2 : e.t < 9223372036854775808
  v1 : -9223372036854775808 ≤ e.v
  v2 : e.v < 9223372036854775808
  tg : e.tag < 4294967296
def evB (e : Ev) : List UInt8 := frameBytes 1 e.key e.t e.v e.tag

theorem EvB.item {e : Ev} (h : EvB e) : isItemB 1 e.key e.v e.tag = true := by
  obtain ⟨k1, k2, t1, t2, v1, v2, tg⟩ := h
  simp [isItemB]
  omega
theorem EvB.of {e : Ev} (h : EvB e) : evOf (itemBody 1 e.key e.t e.v e.tag) = e := by
  have h1 := (frame_item (time := e.t) (value := e.v) h.item h.tg h.t1 h.t2 h.v1 h.v2)
  have hb := h1.1
  have h2 := h1.2
  have hd : (itemBody 1 e.key e.t e.v e.tag).getD 0 0 = 1 := by rfl
  unfold itemOfV at h2
  rw [if_pos hb, if_pos hd] at h2
  have h3 : evItem (evOf (itemBody 1 e.key e.t e.v e.tag)) = evItem e := h2
  unfold evItem itemV at h3
  simp only [Value.agg.injEq, Array.mk.injEq, List.cons.injEq, Value.string.injEq, Value.int.injEq, true_and, and_true] at h3
  obtain ⟨a1, a2, a3, a4⟩ := h3
  cases he : evOf (itemBody 1 e.key e.t e.v e.tag) with
  | mk k t v g =>
    rw [he] at a1 a2 a3 a4
    simp only at a1 a2 a3 a4
    have a5 : g = e.tag := by omega
    subst a1; subst a2; subst a3; subst a5
    rfl
theorem evB_drop (e : Ev) (h : EvB e) (more : List UInt8) : (evB e ++ more).drop (((evB e ++ more).getD 0 0).toNat + 3) = more := by
  have h1 := frame_head (time := e.t) h.item more
  have h2 := frame_len (time := e.t) h.item
  unfold evB
  rw [h1, ← h2, List.drop_left]
/-- An event's bytes fed. -/
theorem feed_ev (c : Cf) (n f : Nat) (sp : Sp) (e : Ev) (h : EvB e) (more : List UInt8) : feedF c n (f + 1) sp (evB e ++ more) = feedF c n f ((sp.event0 c n e).line c) more ∧ feedB c n (f + 1) sp (evB e ++ more) = feedB c n f ((sp.event0 c n e).line c) more := by
  obtain ⟨u1, u2⟩ := frame_long h.item h.tg h.t1 h.t2 h.v1 h.v2 more
  have u1 : unfShort (evB e ++ more) = false := u1
  have u2 : unfOk (evB e ++ more) = true := u2
  have hi : itemF c sp n (evB e ++ more) = (sp.event0 c n e).line c := by
    unfold itemF
    have hb : unfBody (evB e ++ more) = itemBody 1 e.key e.t e.v e.tag := frame_body h.item more
    rw [hb, if_pos (by rfl), h.of]
  rw [feedF, feedB, u1, u2, evB_drop e h more, hi]
  exact ⟨rfl, rfl⟩
theorem feed_mk (c : Cf) (n f : Nat) (sp : Sp) (t : Int) (t1 : -9223372036854775808 ≤ t) (t2 : t < 9223372036854775808) (more : List UInt8) : feedF c n (f + 1) sp (markB t ++ more) = feedF c n f ((sp.mark0 n t).line c) more ∧ feedB c n (f + 1) sp (markB t ++ more) = feedB c n f ((sp.mark0 n t).line c) more := by
  have hI : isItemB 2 ⟨#[]⟩ 0 ((0 : Nat) : Int) = true := item_mark2
  obtain ⟨u1, u2⟩ := frame_long (kind := 2) (key := ⟨#[]⟩) (time := t) (value := 0) (tag := 0) hI (by omega) t1 t2 (by omega) (by omega) more
  have u1 : unfShort (markB t ++ more) = false := u1
  have u2 : unfOk (markB t ++ more) = true := u2
  have hb : unfBody (markB t ++ more) = itemBody 2 ⟨#[]⟩ t 0 0 := frame_body (kind := 2) (key := ⟨#[]⟩) (time := t) (value := 0) (tag := 0) hI more
  have hi : itemF c sp n (markB t ++ more) = (sp.mark0 n t).line c := by
    unfold itemF
    rw [hb, if_neg (by simp [itemBody, bodyMark])]
    have : toI (numb ((itemBody 2 ⟨#[]⟩ t 0 0).drop 1)) = t := by
      simp only [itemBody, bodyMark, if_true, List.drop_succ_cons, List.drop_zero]
      have := toU_lt t
      rw [numb_low, Nat.mod_eq_of_lt (by omega), toI_toU t t1 t2]
    rw [this]
  have hd : (markB t ++ more).drop (((markB t ++ more).getD 0 0).toNat + 3) = more := by
    have h1 := frame_head (kind := 2) (key := ⟨#[]⟩) (time := t) (value := 0) (tag := 0) hI more
    have h2 := frame_len (kind := 2) (key := ⟨#[]⟩) (time := t) (value := 0) (tag := 0) hI
    unfold markB
    rw [h1, ← h2, List.drop_left]
  rw [feedF, feedB, u1, u2, hd, hi]
  exact ⟨rfl, rfl⟩
end Go.Proofs.YtcfngdnmpogaoaaGreat
namespace Go.Proofs.YtcfngdnmpogaoaaGreat
open Go.RowKit

structure Rst (c : Cf) (sp : Sp) : Prop where
  rest : sp.line c = sp
  li : sp.E ≠ [] → sp.li = true
  lt : sp.lt ≤ 2305843009213693952
  src : ∀ s ∈ sp.src, s.is = true → s.time ≤ 2305843009213693952

theorem Rst.line {c : Cf} {sp : Sp} (h0 : 0 ≤ c.late) (hli : sp.E ≠ [] → sp.li = true ∨ (leastS sp.src).2 = true) (hlt : sp.lt ≤ 2305843009213693952) (hs : ∀ s ∈ sp.src, s.is = true → s.time ≤ 2305843009213693952) : Rst c (sp.line c) := by
  refine ⟨sp.line_line c, fun hE => ?_, ?_, hs⟩
  · show (lineF c.late sp.src sp.lt sp.li).2 = true
    unfold lineF
    split
    · rfl
    · rename_i h
      rcases hli hE with h1 | h1
      · exact h1
      · exact absurd h1 h
  · show (lineF c.late sp.src sp.lt sp.li).1 ≤ _
    unfold lineF
    split
    · rename_i h
      simp only
      split
      · obtain ⟨s, hs1, hs2, hs3⟩ := least_of h
        have := hs s hs1 hs2
        omega
      · exact hlt
    · exact hlt
theorem clampT_le (t : Int) : clampT t ≤ 2305843009213693952 := by unfold clampT; split <;> omega
theorem Rst.mark {c : Cf} {sp : Sp} (h : Rst c sp) (h0 : 0 ≤ c.late) (n : Nat) (s : SrcS) (_hs : sp.src[n]? = some s) (t : Int) : Rst c ((sp.mark0 n t).line c) :=
  Rst.line h0 (fun hE => .inl (h.li hE)) h.lt (raised_src h.src (clampT_le t))
theorem Rst.event {c : Cf} {sp : Sp} (h : Rst c sp) (h0 : 0 ≤ c.late) (n : Nat) (s : SrcS) (hs : sp.src[n]? = some s) (e : Ev) : Rst c ((sp.event0 c n e).line c) := by
  unfold Sp.event0
  split
  · exact Rst.line h0 (fun hE => .inl (h.li hE)) h.lt h.src
  · rename_i ho
    have he : e.t ≤ 2305843009213693952 := by
      unfold outB at ho
      simp only [Bool.or_eq_true, decide_eq_true_eq, not_or] at ho
      omega
    split
    · exact Rst.line h0 (fun hE => .inl (h.li hE)) h.lt (raised_src h.src he)
    · split
      · exact Rst.line h0 (fun hE => .inl (h.li hE)) h.lt h.src
      · exact Rst.line h0 (fun _ => .inr (raised_least e.t hs)) h.lt (raised_src h.src he)
theorem Rst.break {c : Cf} {sp : Sp} (h : Rst c sp) (h0 : 0 ≤ c.late) (n : Nat) : Rst c ((sp.break0 n).line c) := by
  refine Rst.line h0 (fun hE => .inl (h.li hE)) h.lt (fun s hs hi => ?_)
  rcases mem_modify hs with hs | ⟨a, _, rfl⟩
  · exact h.src s hs hi
  · cases hi
theorem Rst.item {c : Cf} {sp : Sp} (h : Rst c sp) (h0 : 0 ≤ c.late) (n : Nat) (s : SrcS) (hs : sp.src[n]? = some s) (L : List UInt8) : Rst c (itemF c sp n L) := by
  unfold itemF
  split
  · exact h.event h0 n s hs _
  · exact h.mark h0 n s hs _
theorem Rst.feed {c : Cf} (h0 : 0 ≤ c.late) (n : Nat) : ∀ (f : Nat) (sp : Sp) (L : List UInt8) (s : SrcS), Rst c sp → sp.src[n]? = some s → s.opened = true → s.broken = false → Rst c (feedF c n f sp L).1
  | 0, _, _, _, h, _, _, _ => h
  | f + 1, sp, L, s, h, hs, ho, hb => by
    rw [feedF]
    split
    · exact h
    · split
      · obtain ⟨s', a1, a2, a3⟩ := itemF_open c sp n L s hs ho hb
        exact Rst.feed h0 n f _ _ s' (h.item h0 n s hs L) a1 a2 a3
      · exact h.break h0 n
theorem Rst.new (c : Cf) : Rst c (Sp.new.open 0) := by
  refine ⟨rfl, fun h => absurd rfl h, by decide, fun s hs hi => ?_⟩
  have hs : s ∈ [(⟨true, false, 0, false⟩ : SrcS), ⟨false, false, 0, false⟩, ⟨false, false, 0, false⟩, ⟨false, false, 0, false⟩, ⟨false, false, 0, false⟩, ⟨false, false, 0, false⟩, ⟨false, false, 0, false⟩, ⟨false, false, 0, false⟩] := hs
  simp only [List.mem_cons, List.not_mem_nil, or_false] at hs
  rcases hs with rfl | rfl | rfl | rfl | rfl | rfl | rfl | rfl <;> cases hi

/-- Marks never fall. -/
theorem event0_marks (c : Cf) (sp : Sp) (n : Nat) (e : Ev) : (sp.event0 c n e).n.marks = sp.n.marks := by
  unfold Sp.event0
  split
  · rfl
  · split
    · rfl
    · split
      · rfl
      · rfl
theorem mark0_marks (c : Cf) (sp : Sp) (n : Nat) (t : Int) : ((sp.mark0 n t).line c).n.marks = wrap64 (sp.n.marks + 1) := rfl
theorem break0_marks (c : Cf) (sp : Sp) (n : Nat) : ((sp.break0 n).line c).n.marks = sp.n.marks := rfl
theorem line_marks (c : Cf) (sp : Sp) : (sp.line c).n.marks = sp.n.marks := rfl
theorem itemF_marks (c : Cf) (sp : Sp) (n : Nat) (L : List UInt8) (h0 : 0 ≤ sp.n.marks) (h1 : sp.n.marks < 4611686018427387904) : (itemF c sp n L).n.marks = sp.n.marks ∨ (itemF c sp n L).n.marks = sp.n.marks + 1 := by
  unfold itemF
  split
  · rw [line_marks, event0_marks]; exact .inl rfl
  · rw [mark0_marks]
    right
    unfold wrap64; omega
theorem feedF_step (c : Cf) (n f : Nat) (sp : Sp) (L : List UInt8) : (unfShort L = true → feedF c n (f + 1) sp L = (sp, L)) ∧ (unfShort L = false → unfOk L = false → feedF c n (f + 1) sp L = ((sp.break0 n).line c, [])) ∧ (unfShort L = false → unfOk L = true → feedF c n (f + 1) sp L = feedF c n f (itemF c sp n L) (L.drop ((L.getD 0 0).toNat + 3))) := by
  refine ⟨fun h => ?_, fun h1 h2 => ?_, fun h1 h2 => ?_⟩
  · rw [feedF, h]; rfl
  · rw [feedF, h1, h2]; rfl
  · rw [feedF, h1, h2]; rfl
theorem feedF_marks (c : Cf) (n : Nat) (f : Nat) : ∀ (sp : Sp) (L : List UInt8), 0 ≤ sp.n.marks → sp.n.marks + L.length < 4611686018427387904 → sp.n.marks ≤ (feedF c n f sp L).1.n.marks := by
  induction f with
  | zero => intro sp L _ _; rw [feedF]; exact Int.le_refl _
  | succ f ih =>
    intro sp L h0 h1
    obtain ⟨q1, q2, q3⟩ := feedF_step c n f sp L
    cases hs : unfShort L with
    | true => rw [q1 hs]; exact Int.le_refl _
    | false =>
      cases ho : unfOk L with
      | false => rw [q2 hs ho, break0_marks]; exact Int.le_refl _
      | true =>
        rw [q3 hs ho]
        have hl := (unf_app L [] hs).2.2.2.2.2
        have hd : (L.drop ((L.getD 0 0).toNat + 3)).length + 3 ≤ L.length := by rw [List.length_drop]; omega
        have hi := itemF_marks c sp n L h0 (by omega)
        have := ih (itemF c sp n L) (L.drop ((L.getD 0 0).toNat + 3)) (by omega) (by omega)
        omega
end Go.Proofs.YtcfngdnmpogaoaaGreat
