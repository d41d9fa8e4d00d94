import Derived.Test.YtcfngdnmpogaoaaGreatPcS01
namespace Go.Proofs.YtcfngdnmpogaoaaGreat
open Go.RowKit

/-- Is a source broken off on the way? -/
def feedB (c : Cf) (n : Nat) : Nat → Sp → List UInt8 → Bool
  | 0, _, _ => false
  | f + 1, sp, L => if unfShort L then false else if unfOk L then feedB c n f (itemF c sp n L) (L.drop ((L.getD 0 0).toNat + 3)) else true

end Go.Proofs.YtcfngdnmpogaoaaGreat
namespace Go.Proofs.YtcfngdnmpogaoaaGreat
open Go.RowKit

/-- An event that can be framed. -/
structure EvB (e : Ev) : Prop where
  k1 : 1 ≤ e.key.size
  k2 : e.key.size ≤ 8
  t1 : -9223372036854775808 ≤ e.t
  t2 : e.t < 9223372036854775808
  v1 : -9223372036854775808 ≤ e.v
  v2 : e.v < 9223372036854775808
  tg : e.tag < 4294967296
def evB (e : Ev) : List UInt8 := frameBytes 1 e.key e.t e.v e.tag

theorem EvB.item {e : Ev} (h : EvB e) : isItemB 1 e.key e.v e.tag = true := by
  obtain ⟨k1, k2, t1, t2, v1, v2, tg⟩ := h
  simp [isItemB]
  omega
theorem EvB.of {e : Ev} (h : EvB e) : evOf (itemBody 1 e.key e.t e.v e.tag) = e := by
  have h1 := (frame_item (time := e.t) (value := e.v) h.item h.tg h.t1 h.t2 h.v1 h.v2)
  have hb := h1.1
  have h2 := h1.2
  have hd : (itemBody 1 e.key e.t e.v e.tag).getD 0 0 = 1 := by rfl
  unfold itemOfV at h2
  rw [if_pos hb, if_pos hd] at h2
  have h3 : evItem (evOf (itemBody 1 e.key e.t e.v e.tag)) = evItem e := h2
  unfold evItem itemV at h3
  simp only [Value.agg.injEq, Array.mk.injEq, List.cons.injEq, Value.string.injEq, Value.int.injEq, true_and, and_true] at h3
  obtain ⟨a1, a2, a3, a4⟩ := h3
  cases he : evOf (itemBody 1 e.key e.t e.v e.tag) with
  | mk k t v g =>
    rw [he] at a1 a2 a3 a4
    simp only at a1 a2 a3 a4
    have a5 : g = e.tag := by omega
    subst a1; subst a2; subst a3; subst a5
    rfl
theorem evB_drop (e : Ev) (h : EvB e) (more : List UInt8) : (evB e ++ more).drop (((evB e ++ more).getD 0 0).toNat + 3) = more := by
  have h1 := frame_head (time := e.t) h.item more
  have h2 := frame_len (time := e.t) h.item
  unfold evB
  rw [h1, ← h2, List.drop_left]
/-- An event's bytes fed. -/
theorem feed_ev (c : Cf) (n f : Nat) (sp : Sp) (e : Ev) (h : EvB e) (more : List UInt8) : feedF c n (f + 1) sp (evB e ++ more) = feedF c n f ((sp.event0 c n e).line c) more ∧ feedB c n (f + 1) sp (evB e ++ more) = feedB c n f ((sp.event0 c n e).line c) more := by
  obtain ⟨u1, u2⟩ := frame_long h.item h.tg h.t1 h.t2 h.v1 h.v2 more
  have u1 : unfShort (evB e ++ more) = false := u1
  have u2 : unfOk (evB e ++ more) = true := u2
  have hi : itemF c sp n (evB e ++ more) = (sp.event0 c n e).line c := by
    unfold itemF
    have hb : unfBody (evB e ++ more) = itemBody 1 e.key e.t e.v e.tag := frame_body h.item more
    rw [hb, if_pos (by rfl), h.of]
  rw [feedF, feedB, u1, u2, evB_drop e h more, hi]
  exact ⟨rfl, rfl⟩
theorem feed_mk (c : Cf) (n f : Nat) (sp : Sp) (t : Int) (t1 : -9223372036854775808 ≤ t) (t2 : t < 9223372036854775808) (more : List UInt8) : feedF c n (f + 1) sp (markB t ++ more) = feedF c n f ((sp.mark0 n t).line c) more ∧ feedB c n (f + 1) sp (markB t ++ more) = feedB c n f ((sp.mark0 n t).line c) more := by
  have hI : isItemB 2 ⟨#[]⟩ 0 ((0 : Nat) : Int) = true := item_mark2
  obtain ⟨u1, u2⟩ := frame_long (kind := 2) (key := ⟨#[]⟩) (time := t) (value := 0) (tag := 0) hI (by omega) t1 t2 (by omega) (by omega) more
  have u1 : unfShort (markB t ++ more) = false := u1
  have u2 : unfOk (markB t ++ more) = true := u2
  have hb : unfBody (markB t ++ more) = itemBody 2 ⟨#[]⟩ t 0 0 := frame_body (kind := 2) (key := ⟨#[]⟩) (time := t) (value := 0) (tag := 0) hI more
  have hi : itemF c sp n (markB t ++ more) = (sp.mark0 n t).line c := by
    unfold itemF
    rw [hb, if_neg (by simp [itemBody, bodyMark])]
    have : toI (numb ((itemBody 2 ⟨#[]⟩ t 0 0).drop 1)) = t := by
      simp only [itemBody, bodyMark, if_true, List.drop_succ_cons, List.drop_zero]
      have := toU_lt t
      rw [numb_low, Nat.mod_eq_of_lt (by omega), toI_toU t t1 t2]
    rw [this]
  have hd : (markB t ++ more).drop (((markB t ++ more).getD 0 0).toNat + 3) = more := by
    have h1 := frame_head (kind := 2) (key := ⟨#[]⟩) (time := t) (value := 0) (tag := 0) hI more
    have h2 := frame_len (kind := 2) (key := ⟨#[]⟩) (time := t) (value := 0) (tag := 0) hI
    unfold markB
    rw [h1, ← h2, List.drop_left]
  rw [feedF, feedB, u1, u2, hd, hi]
  exact ⟨rfl, rfl⟩
end Go.Proofs.YtcfngdnmpogaoaaGreat
namespace Go.Proofs.YtcfngdnmpogaoaaGreat
open Go.RowKit

structure Rst (c : Cf) (sp : Sp) : Prop where
  rest : sp.line c = sp
  li : sp.E ≠ [] → sp.li = true
  lt : sp.lt ≤ 2305843009213693952
  src : ∀ s ∈ sp.src, s.is = true → s.time ≤ 2305843009213693952

theorem Rst.line {c : Cf} {sp : Sp} (h0 : 0 ≤ c.late) (hli : sp.E ≠ [] → sp.li = true ∨ (leastS sp.src).2 = true) (hlt : sp.lt ≤ 2305843009213693952) (hs : ∀ s ∈ sp.src, s.is = true → s.time ≤ 2305843009213693952) : Rst c (sp.line c) := by
  refine ⟨sp.line_line c, fun hE => ?_, ?_, hs⟩
  · show (lineF c.late sp.src sp.lt sp.li).2 = true
    unfold lineF
    split
    · rfl
    · rename_i h
      rcases hli hE with h1 | h1
      · exact h1
      · exact absurd h1 h
  · show (lineF c.late sp.src sp.lt sp.li).1 ≤ _
    unfold lineF
    split
    · rename_i h
      simp only
      split
      · obtain ⟨s, hs1, hs2, hs3⟩ := least_of h
        have := hs s hs1 hs2
        omega
      · exact hlt
    · exact hlt
theorem clampT_le (t : Int) : clampT t ≤ 2305843009213693952 := by unfold clampT; split <;> omega
theorem Rst.mark {c : Cf} {sp : Sp} (h : Rst c sp) (h0 : 0 ≤ c.late) (n : Nat) (s : SrcS) (_hs : sp.src[n]? = some s) (t : Int) : Rst c ((sp.mark0 n t).line c) :=
  Rst.line h0 (fun hE => .inl (h.li hE)) h.lt (raised_src h.src (clampT_le t))
theorem Rst.new (c : Cf) : Rst c (Sp.new.open 0) := by
  refine ⟨rfl, fun h => absurd rfl h, by decide, fun s hs hi => ?_⟩
  have hs : s ∈ [(⟨true, false, 0, false⟩ : SrcS), ⟨false, false, 0, false⟩, ⟨false, false, 0, false⟩, ⟨false, false, 0, false⟩, ⟨false, false, 0, false⟩, ⟨false, false, 0, false⟩, ⟨false, false, 0, false⟩, ⟨false, false, 0, false⟩] := hs
  simp only [List.mem_cons, List.not_mem_nil, or_false] at hs
  rcases hs with rfl | rfl | rfl | rfl | rfl | rfl | rfl | rfl <;> cases hi

theorem feedF_step (c : Cf) (n f : Nat) (sp : Sp) (L : List UInt8) : (unfShort L = true → feedF c n (f + 1) sp L = (sp, L)) ∧ (unfShort L = false → unfOk L = false → feedF c n (f + 1) sp L = ((sp.break0 n).line c, [])) ∧ (unfShort L = false → unfOk L = true → feedF c n (f + 1) sp L = feedF c n f (itemF c sp n L) (L.drop ((L.getD 0 0).toNat + 3))) := by
  refine ⟨fun h => ?_, fun h1 h2 => ?_, fun h1 h2 => ?_⟩
  · rw [feedF, h]; rfl
  · rw [feedF, h1, h2]; rfl
  · rw [feedF, h1, h2]; rfl
end Go.Proofs.YtcfngdnmpogaoaaGreat
