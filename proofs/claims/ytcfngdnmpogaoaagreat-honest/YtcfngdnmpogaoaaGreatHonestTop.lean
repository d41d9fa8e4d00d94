/- Proved: the statement Honest (whatever happens, each item is counted once, as what it is; the line never falls; windows come by their ends, none with an end behind the line, none twice, and no event in one that was told; and at the end, behind a late mark, all that was taken has been told), for every input, with no condition of ours. -/
import Derived.Test.YtcfngdnmpogaoaaGreatHnA02
namespace Go.Proofs.YtcfngdnmpogaoaaGreat
open Go.RowKit Go.ChangeShapes Go.WideShapes Go.ChangeAt

theorem cellsSt : Tryz.prog.cellsOf 65 = 6 := by kernel_rfl
theorem list6 {α : Type} {l : List α} (h : l.length = 6) : ∃ a b c d e f, l = [a, b, c, d, e, f] := by
  match l, h with
  | [a, b, c, d, e, f], _ => exact ⟨a, b, c, d, e, f, rfl⟩
theorem list3 {α : Type} {l : List α} (h : l.length = 3) : ∃ a b c, l = [a, b, c] := by
  match l, h with
  | [a, b, c], _ => exact ⟨a, b, c, rfl⟩
theorem open_step {H : Type} {enc : TypeId × Value → H} {w : World} {base : Nat} {spare : Nat → Bool} {held : Bool} {fuel : Nat} {cs : List Value} {x : DataW H × List MemPlace} (h : DataW.trod enc Tryz.prog w base spare held fuel 65 cs = some x) :
    ∃ e : RawS, cs = e.cells.toList ∧ e.Fits := by
  obtain ⟨xs, n, _, rfl, hl, hlen, hf⟩ := DataW.trod_struct Tryz.underlying65 h
  rw [cellsSt] at hl
  obtain ⟨a, b, c, d, e, f, rfl⟩ := list6 hl
  have e0 := hf 0 ⟨ "Kind", 3, 0, false, "", "", 0⟩ rfl
  have e1 := hf 1 ⟨ "Source", 3, 1, false, "", "", 8⟩ rfl
  have e2 := hf 2 ⟨ "E", 51, 2, false, "", "", 16⟩ rfl
  simp only [cells3, cellsEv, List.drop_zero, List.drop_succ_cons, List.take_succ_cons, List.take_zero] at e0 e1 e2
  obtain ⟨y0, y1, y2, rfl⟩ := list3 (l := xs) (by rw [hlen]; rfl)
  try simp only [List.getElem?_cons_zero, List.getElem?_cons_succ] at e0 e1 e2
  obtain ⟨k0, hk0, _, w0⟩ := DataW.trod_int Tryz.underlying3 e0
  obtain ⟨k1, hk1, _, w1⟩ := DataW.trod_int Tryz.underlying3 e1
  obtain ⟨r, hr, hrf⟩ := open_event e2
  simp only [List.cons.injEq, and_true] at hk0 hk1
  subst hk0 hk1
  simp only [RawE.cells, List.cons.injEq, and_true] at hr
  obtain ⟨rfl, rfl, rfl, rfl⟩ := hr
  exact ⟨⟨k0, k1, r⟩, rfl, bounds_i64 w0, bounds_i64 w1, hrf⟩
theorem open_steps {H : Type} {enc : TypeId × Value → H} {W : World} {fuel : Nat} {cs : List Value} {d : DataW H} {p : List MemPlace} (h : DataW.trod enc Tryz.prog W 0 (fun _ => true) true fuel 61 cs = some (d, p))
    (hlt : ∀ x ∈ p, x.block < W.heap.size) :
    ∃ v evs, cs = [v] ∧ StepsAt W v evs ∧ (∀ e ∈ evs, e.Fits) := by
  rcases Deep.open_slice Tryz.underlying61 h with ⟨hcs, _⟩ | ⟨a, len, cap, m, n, D, Pl, hcs, _, hl, hm, hmm, hx, hel⟩
  · exact ⟨_, [], hcs, ⟨none, 0, rfl, fun i hi => absurd hi (by simp)⟩, fun e he => (by cases he)⟩
  · simp only [if_true] at hmm
    subst hmm
    simp only [Prod.mk.injEq] at hx
    obtain ⟨-, hp⟩ := hx
    rw [hp] at hlt
    rw [cellsSt] at hel
    have hall : ∀ i, ∃ e : RawS, i < len → e.Fits ∧ ∀ j, j < 6 → W.cell? ((a.add (i * 6)).add j) = e.cells[j]? := by
      intro i
      by_cases hi : i < len
      · obtain ⟨cs', h1, h2⟩ := hel i (by omega)
        obtain ⟨e, rfl, hk⟩ := open_step h2
        obtain ⟨hl4, hc⟩ := cellsN_some h1
        refine ⟨e, fun _ => ⟨hk, fun j hj => ?_⟩⟩
        rw [hc j hj]; simp
      · exact ⟨⟨0, 0, ⟨0, 0, 0, 0⟩⟩, fun hh => absurd hh hi⟩
    obtain ⟨f, hf⟩ := Classical.skolem.1 hall
    have hlen : ((List.range len).map f).length = len := by simp
    refine ⟨_, (List.range len).map f, hcs, ⟨some a, m, by rw [hlen], fun i hi => ?_⟩, fun e he => ?_⟩
    · rw [hlen] at hi
      obtain ⟨b, off, spot⟩ := a
      have hspot : spot = none := by
        have := (hf 0 (by omega)).2 0 (by omega)
        cases spot with
        | none => rfl
        | some q =>
          simp [RawS.cells, World.cell?, Addr.add] at this
          split at this <;> simp at this
      subst hspot
      refine ⟨b, off, rfl, hlt (.cell b off) (List.mem_append_left _ (MemPlace.mem_row.2 ⟨0, by rw [cellsSt]; omega, by simp⟩)), fun j hj => ?_⟩
      have := (hf i hi).2 j hj
      rw [Addr.add_lit, Addr.add_lit, Nat.add_assoc] at this
      rw [this]
      simp
    · obtain ⟨i, hi, rfl⟩ := List.mem_map.1 he
      exact (hf i (List.mem_range.1 hi)).1
end Go.Proofs.YtcfngdnmpogaoaaGreat
namespace Go.Proofs.YtcfngdnmpogaoaaGreat
open Go.RowKit Go.ChangeShapes Go.WideShapes Go.ChangeAt

set_option maxRecDepth 100000 in
theorem honest_lifted (os : Os) (started : os.Started) (H : Type) (enc : TypeId × Value → H) :
    ReturnsInHanded {} Tryz.checked os 8 .any (Rows.honestSpec.pre6 enc Tryz.prog Tryz.f8 Rows.honestRow.domain false) (Rows.honestSpec.post enc Tryz.prog Tryz.f8 false true false false) := by
  refine returnsInHanded_of_change_sized (C := Tryz.checked) ownL started (by kernel_rfl) Tryz.func8
    (ChangeSpec.witness6 (enc := enc) (C := Tryz.checked) false ⟨#[], #[.agg #[.int .i64 0, .int .i64 0, .int .i64 0, .int .i64 0], .slice none 0 0], []⟩ 8 (by kernel_rfl) (by kernel_rfl) (by kernel_rfl) (by kernel_rfl)) ?_
  intro W base args ds gs before hval0 hW _ _ _
  have hval : ∀ (j : Nat) t v, Tryz.f8.params[j]? = some t → args[j]? = some v → Value.okWide Tryz.prog W .any base t v := hval0
  have hW' := hW
  obtain ⟨p, q, hA0, hV, rfl, _, _⟩ := hW
  have hA : DataW.TrodAll enc Tryz.prog W 0 (fun _ => true) true Tryz.f8.params.toList args.toList ds p := hA0
  rw [Tryz.params8] at hA hval
  obtain ⟨v0, vs0, d0, ds0, p0, q0, hargs, rfl, rfl, h0, r0⟩ := trodAll_cons hA
  obtain ⟨v1, vs1, d1, ds1, p1, q1, rfl, rfl, rfl, h1, r1⟩ := trodAll_cons r0
  obtain ⟨rfl, rfl, rfl⟩ := trodAll_nil r1
  obtain rfl : args = #[v0, v1] := by cases args; simp_all
  obtain ⟨rfl, rfl⟩ := trodVars_none hV
  clear hA0 hval0
  simp only [List.append_nil] at hW'
  have hlt : ∀ x ∈ p0 ++ p1, x.block < W.heap.size := fun x hx => by simpa using hW'.lt x hx
  obtain ⟨cs, rfl, -⟩ := okWide_struct Tryz.underlying39 (hval 0 39 v0 rfl rfl)
  obtain ⟨a1, len1, cap1, rfl⟩ := okWide_slice Tryz.underlying61 (hval 1 61 v1 rfl rfl)
  have h0k := h0
  have h1k := h1
  obtain ⟨fuel0, hf0⟩ := h0
  obtain ⟨fuel1, hf1⟩ := h1
  obtain ⟨a, b, c, d, hcs, ba, bb, bc, bd⟩ := open_shape hf0
  have hcs' : cs = #[.int .i64 a, .int .i64 b, .int .i64 c, .int .i64 d] := by
    have : (Value.agg cs).cells = cs := rfl
    rw [this] at hcs
    exact Array.toList_inj.1 hcs
  obtain ⟨ev, evs, hev, hE, hEf⟩ := open_steps hf1 (fun x hx => hlt x (List.mem_append_right _ hx))
  have hev : ev = .slice a1 len1 cap1 := by simpa [Value.cells] using hev.symm
  subst hev
  have hwalk : Calls Tryz.prog 8 #[.agg cs, .slice a1 len1 cap1] W fun e w' => e = .returned (.bool true) ∧ Below W.heap.size W w' := by
    rw [hcs']
    exact honest_any rising_any sort_ok (known_on rising_any sort_ok) a b c d ba bb bc bd _ evs W hE hEf
  have hargs0 : ∀ (W' : World), Below W.heap.size W W' → DataW.Trod enc Tryz.prog W' 0 (fun b => decide (b < W.heap.size)) true 39 (.agg cs) d0 p0 :=
    fun W' hn => Below.trod laidOutL (by kernel_rfl) (of_decide_eq_true (by kernel_rfl)) h0k hn (fun x hx => hlt x (List.mem_append_left _ hx))
  have hargs1 : ∀ (W' : World), Below W.heap.size W W' → DataW.Trod enc Tryz.prog W' 0 (fun b => decide (b < W.heap.size)) true 61 (.slice a1 len1 cap1) d1 p1 :=
    fun W' hn => Below.trod laidOutL (by kernel_rfl) (of_decide_eq_true (by kernel_rfl)) h1k hn (fun x hx => hlt x (List.mem_append_right _ hx))
  refine hwalk.mono fun e W' ⟨he, hb⟩ => ?_
  subst he
  exact ⟨_, rfl, ⟨_, _, _, [], _, [], hW', trodAll_mk1 (shut_bool Tryz.underlying4 _), trodAll_cons_mk (hargs0 W' hb) (trodAll_cons_mk (hargs1 W' hb) trodAll_mk0), rfl, hb.frame _, fun h => by cases h⟩⟩

theorem honest_holds : Rows.HonestSaid :=
  OpenClaim.holds_of_wide 8 Tryz.f8 rfl rfl rfl rfl rfl rfl rfl ⟨rfl, rfl, rfl, rfl, rfl⟩ rfl rfl rfl rfl rfl (by kernel_rfl) Tryz.func8 (by kernel_rfl)
    (of_decide_eq_true (by kernel_rfl)) (by unfold Func.isWrapper; first | (rw [if_pos (by decide +kernel)]; kernel_rfl) | (rw [if_neg (by decide +kernel)]; exact ⟨rfl, rfl⟩))
    (fun os started H enc _ => honest_lifted os started H enc)

end Go.Proofs.YtcfngdnmpogaoaaGreat
