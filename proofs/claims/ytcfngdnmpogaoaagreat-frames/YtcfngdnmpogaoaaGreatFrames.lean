/-
  WHAT IS PROVED HERE: 'silllaw.Frames' returns true for every script, and the script reads behind the call as it read before. NO CONDITION of ours: the row's own reach alone.
-/
import Derived.Test.YtcfngdnmpogaoaaGreatOpen
namespace Go.Proofs.YtcfngdnmpogaoaaGreat
open Go.RowKit Go.ChangeShapes Go.WideShapes Go.ChangeAt

set_option maxHeartbeats 1600000 in
theorem frames_walk (v : Value) (w : World) (hu : ∀ W, Below w.heap.size w W → Calls Tryz.prog 13 #[v, .int .i64 1, .int .i64 2] W fun e w' => e = .returned (.int .i64 (-1)) ∧ Below W.heap.size W w') :
    Calls Tryz.prog 3 #[v] w fun e w' => e = .returned (.bool true) ∧ Below w.heap.size w w' := by
  have HU : Hid (∀ W, Below w.heap.size w W → Calls Tryz.prog 13 #[v, .int .i64 1, .int .i64 2] W fun e w' => e = .returned (.int .i64 (-1)) ∧ Below W.heap.size W w') := hu
  clear hu
  go_enter Tryz.func3, Tryz.ntmps3
  go_wp2_with fail
  refine (example_frames w).mono ?_
  rintro e W1 ⟨rfl, hb1⟩
  have HB : Hid (Below w.heap.size w W1) := hb1
  clear hb1
  go_wp2_with fail
  refine (HU.out W1 HB.out).mono ?_
  rintro e W2 ⟨rfl, hb2⟩
  have HB2 : Hid (Below W1.heap.size W1 W2) := hb2
  clear hb2
  go_wp2
  go_ret
  exact ⟨rfl, HB.out.trans (HB2.out.mono HB.out.size)⟩

theorem weight_in {H : Type} {D : Nat → DataW H} {P : Program} {e : TypeId} {i x : Nat} : ∀ {n : Nat}, i < n → x ∈ (D i).weights P e → x ∈ DataW.weightsAll P e ((List.range n).map D) := by
  intro n
  have key : ∀ l : List (DataW H), ∀ d ∈ l, x ∈ d.weights P e → x ∈ DataW.weightsAll P e l := by
    intro l
    induction l with
    | nil => intro d hd; simp at hd
    | cons a l ih =>
      intro d hd hx
      simp only [DataW.weightsAll, List.mem_append]
      rcases List.mem_cons.1 hd with rfl | hd
      · exact .inl hx
      · exact .inr (ih d hd hx)
  intro hi hx
  exact key _ (D i) (List.mem_map.2 ⟨i, List.mem_range.2 hi, rfl⟩) hx

theorem cells_some {w : World} {base : Nat} {a : Addr} {n : Nat} {cs : List Value} (h : w.cells? base a n = some cs) : cs.length = n ∧ ∀ j, j < n → w.cell? (a.add j) = cs[j]? := by
  unfold World.cells? at h
  split at h
  · have hl := mapM_some_length h
    refine ⟨by simpa using hl, fun j hj => ?_⟩
    have := mapM_some_get h j j (by simp [hj])
    rw [← this]
  · cases h

/-- THE SCRIPT, OPENED: either nothing is in it, or it lies in memory, step by step. -/
theorem open_script {H : Type} {enc : TypeId × Value → H} {W : World} {fuel : Nat} {cs : List Value} {d : DataW H} {p : List MemPlace} (h : DataW.trod enc Tryz.prog W 0 (fun _ => true) true fuel 22 cs = some (d, p))
    (hsz : (DataW.weightsEach Tryz.prog [22] [d]).all (· ≤ reachBytes) = true) (hlt : ∀ x ∈ p, x.block < W.heap.size) :
    (∃ a cap, cs = [.slice a 0 cap]) ∨ ∃ b off cap ops, cs = [.slice (some ⟨b, off, none⟩) (List.length ops) cap] ∧ Script W b off ops ∧ b < W.heap.size ∧ (∀ o ∈ ops, OpD.Fits o) ∧ ops.length ≤ 1172812402961 := by
  rcases Deep.open_slice Tryz.underlying22 h with ⟨hcs, _⟩ | ⟨a, len, cap, m, n, D, Pl, hcs, _, hl, hm, hmm, hx, hel⟩
  · exact .inl ⟨none, 0, hcs⟩
  · by_cases h0 : len = 0
    · subst h0; exact .inl ⟨some a, cap, hcs⟩
    · right
      simp only [if_true] at hmm
      subst hmm
      simp only [Prod.mk.injEq] at hx
      obtain ⟨hd, hp⟩ := hx
      rw [hd] at hsz
      rw [hp] at hlt
      rw [cells48] at hel
      have hall : ∀ i, i < len → ∃ o : OpD, o.Fits ∧ ∀ j, j < 13 → W.cell? ((a.add (i * 13)).add j) = o.cells[j]? := by
        intro i hi
        obtain ⟨cs', h1, h2⟩ := hel i (by omega)
        obtain ⟨o, rfl, hk, ht, hw⟩ := open_op h2
        obtain ⟨hl13, hc⟩ := cells_some h1
        have hmem : o.s.data.toList.length ∈ DataW.weightsEach Tryz.prog [22] [DataW.slice ((List.range len).map D) ((List.range (m - len)).map fun j => D (len + j))] := by
          simp only [DataW.weightsEach, DataW.weights, Tryz.underlying22, List.append_nil, List.mem_cons, List.mem_append]
          exact .inr (.inl (weight_in hi hw))
        have hle : o.s.data.toList.length ≤ reachBytes := of_decide_eq_true (List.all_eq_true.1 hsz _ hmem)
        rw [keyLen] at hle
        have hrb : reachBytes = 140737488351232 := rfl
        rw [hrb] at hle
        refine ⟨o, ⟨by omega, by simp only [maxLen] at hk; omega, ht⟩, fun j hj => ?_⟩
        rw [hc j hj]; simp
      obtain ⟨f, hf⟩ := Classical.skolem.1 (fun i : Fin len => hall i.1 i.2)
      have hlen : ((List.finRange len).map f).length = len := by simp
      obtain ⟨b, off, spot⟩ := a
      have hspot : spot = none := by
        have := (hf ⟨0, by omega⟩).2 0 (by omega)
        cases spot with
        | none => rfl
        | some q =>
          simp [OpD.cells, World.cell?, Addr.add] at this
          split at this <;> simp at this
      subst hspot
      have hbytes := sized_slice hsz (j := 0) (t := 22) (e := 79) rfl rfl Tryz.underlying22
      rw [bytes48] at hbytes
      simp only [List.length_map, List.length_range, reachBytes] at hbytes
      refine ⟨b, off, m, (List.finRange len).map f, by rw [hlen]; exact hcs, ?_, ?_, ?_, ?_⟩
      · intro i hi j hj
        rw [hlen] at hi
        have := (hf ⟨i, hi⟩).2 j hj
        rw [Addr.add_lit, Addr.add_lit, Nat.add_assoc] at this
        rw [this]
        simp
      · exact hlt (.cell b off) (List.mem_append_left _ (MemPlace.mem_row.2 ⟨0, by rw [cells48]; omega, by simp⟩))
      · intro o ho
        obtain ⟨i, _, rfl⟩ := List.mem_map.1 ho
        exact (hf i).1
      · rw [hlen]; omega

theorem ownT : ownKnob Tryz.prog.godebug = none := by kernel_rfl
theorem laidOutT : laidOutB Tryz.prog = true := by kernel_rfl

set_option maxRecDepth 100000 in
theorem frames_lifted (os : Os) (started : os.Started) (H : Type) (enc : TypeId × Value → H) :
    ReturnsInHanded {} Tryz.checked os 3 .any (Rows.framesSpec.pre6 enc Tryz.prog Tryz.f3 Rows.framesRow.domain false) (Rows.framesSpec.post enc Tryz.prog Tryz.f3 false true false false) := by
  refine returnsInHanded_of_change_sized (C := Tryz.checked) ownT started (by kernel_rfl) Tryz.func3
    (ChangeSpec.witness6 (enc := enc) (C := Tryz.checked) false ⟨#[], #[.slice none 0 0], []⟩ 8 (by kernel_rfl) (by kernel_rfl) (by kernel_rfl) (by kernel_rfl)) ?_
  intro W base args ds gs before hval0 hW _ hsz0 _
  have hval : ∀ (j : Nat) t v, Tryz.f3.params[j]? = some t → args[j]? = some v → Value.okWide Tryz.prog W .any base t v := hval0
  have hsz : (DataW.weightsEach Tryz.prog (Tryz.f3.params.toList ++ Rows.framesSpec.plain.varTypes Tryz.prog) (ds ++ gs)).all (· ≤ reachBytes) = true := hsz0
  have hW' := hW
  obtain ⟨p, q, hA0, hV, rfl, _, _⟩ := hW
  have hA : DataW.TrodAll enc Tryz.prog W 0 (fun _ => true) true Tryz.f3.params.toList args.toList ds p := hA0
  rw [Tryz.params3] at hA hval hsz
  obtain ⟨v0, d0, rfl, rfl, h0⟩ := trodAll_one hA
  obtain ⟨rfl, rfl⟩ := trodVars_none hV
  have h0k := h0
  obtain ⟨fuel, hf⟩ := h0
  clear hA0 hval0
  simp only [List.append_nil] at hW'
  have hlt : ∀ x ∈ p, x.block < W.heap.size := fun x hx => by simpa using hW'.lt x hx
  have hargs : ∀ (W' : World), Below W.heap.size W W' → DataW.Trod enc Tryz.prog W' 0 (fun b => decide (b < W.heap.size)) true 22 v0 d0 p :=
    fun W' hn => Below.trod laidOutT (by kernel_rfl) (of_decide_eq_true (by kernel_rfl)) h0k hn hlt
  obtain ⟨a0, len, cap, rfl⟩ := okWide_slice Tryz.underlying22 (hval 0 22 v0 rfl rfl)
  have hwalk : Calls Tryz.prog 3 #[.slice a0 len cap] W fun e w' => e = .returned (.bool true) ∧ Below W.heap.size W w' := by
    refine frames_walk _ W (fun W1 hb1 => ?_)
    rcases open_script hf hsz hlt with ⟨a, c, hcs⟩ | ⟨b, off, c, ops, hcs, hsc, hb, hfit, hlen⟩
    · simp [Value.cells] at hcs
      obtain ⟨rfl, rfl, rfl⟩ := hcs
      exact upTo_empty a0 cap W1
    · simp [Value.cells] at hcs
      obtain ⟨rfl, rfl, rfl⟩ := hcs
      have hk := Kept.ofBelow hb1 (fun _ => False)
      exact upTo_frames b off cap ops W1 (hsc.kept hk hb id) (by have := hb1.size; omega) hfit hlen
  refine hwalk.mono fun e W' ⟨he, hb⟩ => ?_
  subst he
  exact ⟨_, rfl, ⟨_, _, _, [], _, [], hW', trodAll_mk1 (shut_bool Tryz.underlying4 _), trodAll_mk1 (hargs W' hb), rfl, hb.frame _, fun h => by cases h⟩⟩

theorem frames_holds : Rows.FramesSaid :=
  OpenClaim.holds_of_wide 3 Tryz.f3 rfl rfl rfl rfl rfl rfl rfl ⟨rfl, rfl, rfl, rfl, rfl⟩ rfl rfl rfl rfl rfl (by kernel_rfl) Tryz.func3 (by kernel_rfl)
    (of_decide_eq_true (by kernel_rfl)) (by unfold Func.isWrapper; first | (rw [if_pos (by decide +kernel)]; kernel_rfl) | (rw [if_neg (by decide +kernel)]; exact ⟨rfl, rfl⟩))
    (fun os started H enc _ => frames_lifted os started H enc)

end Go.Proofs.YtcfngdnmpogaoaaGreat
