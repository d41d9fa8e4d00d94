/-
  The line of the code's flow: a moment raised, the least of the sources' moments.
-/
import Derived.Test.YtcfngdnmpogaoaaSFlow
namespace Go.Proofs.Ytcfngdnmpogaoaa
open Go.RowKit

theorem isSource_any (n : Int) (w : World) :
    Calls Try.prog 15 #[.int .i64 n] w fun e w' => e = .returned (.bool (decide (0 ≤ n ∧ n < 8))) ∧ w' = w := by
  by_cases h0 : 0 ≤ n
  · by_cases h8 : n < 8
    · have d : decide (0 ≤ n ∧ n < 8) = true := decide_eq_true ⟨h0, h8⟩
      rw [d]
      go_enter Try.func15, Try.ntmps15
      go_wp2
      go_ret
      exact ⟨rfl, rfl⟩
    · have d : decide (0 ≤ n ∧ n < 8) = false := decide_eq_false (by omega)
      rw [d]
      go_enter Try.func15, Try.ntmps15
      go_wp2
      go_ret
      exact ⟨rfl, rfl⟩
  · have d : decide (0 ≤ n ∧ n < 8) = false := decide_eq_false (by omega)
    rw [d]
    go_enter Try.func15, Try.ntmps15
    go_wp2
    go_ret
    exact ⟨rfl, rfl⟩

theorem openSource_out (g : Nat) (n : Int) (w : World) (hn : ¬ (0 ≤ n ∧ n < 8)) :
    Calls Try.prog 16 #[.pointer (some ⟨g, 0, none⟩), .int .i64 n] w fun e w' => e = .returned (.tuple #[.pointer none, .int .i64 3]) ∧ w' = w := by
  have d : decide (0 ≤ n ∧ n < 8) = false := decide_eq_false hn
  have hs := isSource_any n
  rw [d] at hs
  clear d hn
  go_enter Try.func16, Try.ntmps16
  go_wp2_with fail
  refine (hs _).mono ?_
  rintro e w' ⟨rfl, rfl⟩
  go_wp2
  go_ret2
  exact ⟨rfl, rfl⟩

theorem openSource_no (g n : Nat) (r : SCells) (s : SSrc) (w : World) (h : SF w g r) (hs : r.src[n]? = some s) (ho : s.opened = false) :
    Calls Try.prog 16 #[.pointer (some ⟨g, 0, none⟩), .int .i64 n] w fun e w' => e = .returned (.tuple #[.pointer none, .int .i64 4]) ∧ w' = w := by
  have hn : n < 8 := by have := (List.getElem?_eq_some_iff.1 hs).1; have := h.len; omega
  have hi := isSource_any n
  rw [decide_eq_true (show 0 ≤ (n : Int) ∧ (n : Int) < 8 by omega)] at hi
  have c0 : w.cell? ⟨g, 6 + n * 5, none⟩ = some (.bool false) := h.cell (by rw [← ho]; exact r.srcAt n 0 s hs (by omega))
  clear h
  go_enter Try.func16, Try.ntmps16
  go_wp2_with fail
  refine (hi _).mono ?_
  rintro e w' ⟨rfl, rfl⟩
  go_wp2_with fail
  go_ret2
  exact ⟨rfl, rfl⟩

theorem openSource_yes (g n : Nat) (r : SCells) (s : SSrc) (w : World) (h : SF w g r) (hs : r.src[n]? = some s) (ho : s.opened = true) :
    Calls Try.prog 16 #[.pointer (some ⟨g, 0, none⟩), .int .i64 n] w fun e w' => e = .returned (.tuple #[.pointer (some ⟨g, 6 + n * 5, none⟩), .int .i64 0]) ∧ w' = w := by
  have hn : n < 8 := by have := (List.getElem?_eq_some_iff.1 hs).1; have := h.len; omega
  have hi := isSource_any n
  rw [decide_eq_true (show 0 ≤ (n : Int) ∧ (n : Int) < 8 by omega)] at hi
  have c0 : w.cell? ⟨g, 6 + n * 5, none⟩ = some (.bool true) := h.cell (by rw [← ho]; exact r.srcAt n 0 s hs (by omega))
  clear h
  go_enter Try.func16, Try.ntmps16
  go_wp2_with fail
  refine (hi _).mono ?_
  rintro e w' ⟨rfl, rfl⟩
  go_wp2_with fail
  go_ret2
  exact ⟨rfl, rfl⟩

theorem raise_yes (g off : Nat) (t x : Int) (b : Bool) (w : World) (h0 : w.cell? ⟨g, off, none⟩ = some (.int .i64 t)) (h1 : w.cell? ⟨g, off + 1, none⟩ = some (.bool b)) (fz : ∀ j, w.frozen? ⟨g, j, none⟩ = false) (hb : b = false ∨ t < x) :
    Calls Try.prog 33 #[.pointer (some ⟨g, off, none⟩), .int .i64 x] w fun e w' => e = .returned (.tuple #[]) ∧ w' = (w.setCell ⟨g, off, none⟩ (.int .i64 x)).setCell ⟨g, off + 1, none⟩ (.bool true) := by
  cases b with
  | false =>
    clear hb
    go_enter Try.func33, Try.ntmps33
    go_wp2
    go_end0
    exact ⟨rfl, rfl⟩
  | true =>
    have hlt : t < x := by simpa using hb
    clear hb
    go_enter Try.func33, Try.ntmps33
    go_wp2
    go_end0
    exact ⟨rfl, rfl⟩

theorem raise_no (g off : Nat) (t x : Int) (w : World) (h0 : w.cell? ⟨g, off, none⟩ = some (.int .i64 t)) (h1 : w.cell? ⟨g, off + 1, none⟩ = some (.bool true)) (hb : ¬ t < x) :
    Calls Try.prog 33 #[.pointer (some ⟨g, off, none⟩), .int .i64 x] w fun e w' => e = .returned (.tuple #[]) ∧ w' = w := by
  go_enter Try.func33, Try.ntmps33
  go_wp2
  go_end0
  exact ⟨rfl, rfl⟩

/-- The least moment of sources, as the code goes through them. -/
def leastStep (m : Int × Bool) (s : SSrc) : Int × Bool := if s.is && (!m.2 || decide (s.time < m.1)) then (s.time, true) else m
def leastF (l : List SSrc) : Int × Bool := l.foldl leastStep (0, false)
theorem leastF_succ (l : List SSrc) (k : Nat) (s : SSrc) (h : l[k]? = some s) : leastF (l.take (k + 1)) = leastStep (leastF (l.take k)) s := by
  have hk : k < l.length := (List.getElem?_eq_some_iff.1 h).1
  have : l[k] = s := (List.getElem?_eq_some_iff.1 h).2
  rw [List.take_succ_eq_append_getElem hk, leastF, List.foldl_append, this]; rfl

theorem two_new (w : World) (a b : Obj) : ((w.alloc a).alloc b).heap[w.heap.size]? = some a ∧ ((w.alloc a).alloc b).heap[w.heap.size + 1]? = some b := by
  have e : (w.alloc a).heap.size = w.heap.size + 1 := by simp
  refine ⟨?_, ?_⟩
  · rw [Below.heap_alloc _ _ _ (by omega)]; exact heap_alloc_new w a
  · rw [← e]; exact heap_alloc_new _ b

/-- A block of two cells, read. -/
theorem cells2At {w : World} {g : Nat} {x y : Value} {t : TypeId} (h : w.heap[g]? = some (.cells #[x, y] t (0, 0))) :
    w.cell? ⟨g, 0, none⟩ = some x ∧ w.cell? ⟨g, 1, none⟩ = some y ∧ (∀ j, w.frozen? ⟨g, j, none⟩ = false) ∧ (∀ o, (w.alloc o).cell? ⟨g, 0, none⟩ = some x ∧ (w.alloc o).cell? ⟨g, 1, none⟩ = some y ∧ ∀ j, (w.alloc o).frozen? ⟨g, j, none⟩ = false) := by
  have hlt : g < w.heap.size := (Array.getElem?_eq_some_iff.1 h).1
  refine ⟨by simp [World.cell?, h], by simp [World.cell?, h], fun j => by simp [World.frozen?, h], fun o => ?_⟩
  have h' : (w.alloc o).heap[g]? = some (.cells #[x, y] t (0, 0)) := by rw [Below.heap_alloc _ _ _ hlt]; exact h
  exact ⟨by simp only [World.cell?, h']; rfl, by simp only [World.cell?, h']; rfl, fun j => by simp only [World.frozen?, h']; rfl⟩

theorem cells2Put {w : World} {g : Nat} {x y u v : Value} {t : TypeId} (h : w.heap[g]? = some (.cells #[x, y] t (0, 0))) : ((w.setCell ⟨g, 0, none⟩ u).setCell ⟨g, 1, none⟩ v).heap[g]? = some (.cells #[u, v] t (0, 0)) := by
  simp [World.setCell, Array.getElem?_modify, h]

theorem setCell2_other (w : World) (g k : Nat) (u v : Value) (h : k ≠ g) : ((w.setCell ⟨g, 0, none⟩ u).setCell ⟨g, 1, none⟩ v).heap[k]? = w.heap[k]? := by
  rw [heap_setCell_other _ _ _ _ h, heap_setCell_other _ _ _ _ h]

/-- Behind k rounds. -/
structure LInv (w : World) (r : SCells) (wr : World) (k : Nat) : Prop where
  below : Below w.heap.size w wr
  size : w.heap.size + 2 ≤ wr.heap.size
  res : wr.heap[w.heap.size]? = some (.cells #[.int .i64 0, .bool false] 48 (0, 0))
  box : wr.heap[w.heap.size + 1]? = some (.cells #[.int .i64 (leastF (r.src.take k)).1, .bool (leastF (r.src.take k)).2] 48 (0, 0))

theorem LInv.same {w wr : World} {r : SCells} {k : Nat} (h : LInv w r wr k) (o : Obj) (he : leastF (r.src.take (k + 1)) = leastF (r.src.take k)) : LInv w r (wr.alloc o) (k + 1) := by
  have hs := h.size
  refine ⟨h.below.alloc (by omega) o, by simp; omega, ?_, ?_⟩
  · rw [Below.heap_alloc _ _ _ (by omega)]; exact h.res
  · rw [Below.heap_alloc _ _ _ (by omega), he]; exact h.box
theorem LInv.put {w wr : World} {r : SCells} {k : Nat} (h : LInv w r wr k) (o : Obj) (t : Int) (he : leastF (r.src.take (k + 1)) = (t, true)) :
    LInv w r (((wr.alloc o).setCell ⟨w.heap.size + 1, 0, none⟩ (.int .i64 t)).setCell ⟨w.heap.size + 1, 1, none⟩ (.bool true)) (k + 1) := by
  have hs := h.size
  refine ⟨((h.below.alloc (by omega) o).setCell (by simp) _).setCell (by simp) _, by simp [World.setCell]; omega, ?_, ?_⟩
  · rw [setCell2_other _ _ _ _ _ (by omega), Below.heap_alloc _ _ _ (by omega)]; exact h.res
  · rw [he]
    exact cells2Put (x := .int .i64 (leastF (r.src.take k)).1) (y := .bool (leastF (r.src.take k)).2) (by rw [Below.heap_alloc _ _ _ (by omega)]; exact h.box)

set_option maxHeartbeats 1600000 in
theorem leastLatest_any (g : Nat) (r : SCells) (w : World) (h : SF w g r) :
    Calls Try.prog 32 #[.pointer (some ⟨g, 0, none⟩)] w fun e w' => e = .returned (.agg #[.int .i64 (leastF r.src).1, .bool (leastF r.src).2]) ∧ Below w.heap.size w w' := by
  have hglt := h.lt
  have H : Hid (SF w g r) := h
  have hl8 := h.len
  clear h
  go_enter Try.func32, Try.ntmps32
  go_wp2
  go_loopw [7] (fun i wr => ∃ k : Nat, k ≤ 8 ∧ i = .int .i64 (k : Int) ∧ LInv w r wr k) (fun i _ => 8 - (intOf i).toNat)
  case atStart =>
    exact ⟨0, by omega, rfl, ((Below.refl _ w).alloc (Nat.le_refl _) _).alloc (by simp) _, by simp, (two_new w _ _).1, (two_new w _ _).2⟩
  case round =>
    obtain ⟨k, hk, rfl, hi⟩ := hrel
    have h := H.out.below hi.below hglt
    have HI : Hid (LInv w r wr k) := hi
    by_cases hk8 : k < 8
    · obtain ⟨s, hs⟩ : ∃ s, r.src[k]? = some s := ⟨_, List.getElem?_eq_getElem (by rw [h.len]; exact hk8)⟩
      have d0 : wr.cell? ⟨g, 6 + k * 5 + 3, none⟩ = some (.int .i64 s.time) := h.cell (r.srcAt k 3 s hs (by omega))
      have d1 : wr.cell? ⟨g, 6 + k * 5 + 4, none⟩ = some (.bool s.is) := h.cell (r.srcAt k 4 s hs (by omega))
      have HS : Hid (leastF (r.src.take (k + 1)) = leastStep (leastF (r.src.take k)) s) := leastF_succ _ _ _ hs
      obtain ⟨b0, b1, fb, bA⟩ := cells2At hi.box
      have hsz := hi.size
      clear hi h
      obtain ⟨mt, hmt⟩ : ∃ mt, (leastF (r.src.take k)).1 = mt := ⟨_, rfl⟩
      obtain ⟨mi, hmi⟩ : ∃ mi, (leastF (r.src.take k)).2 = mi := ⟨_, rfl⟩
      have HM : Hid (leastF (r.src.take k) = (mt, mi)) := by show _ = _; rw [← hmt, ← hmi]
      rw [hmt] at b0 bA
      rw [hmi] at b1 bA
      have bA0 := fun o => (bA o).1
      have bA1 := fun o => (bA o).2.1
      have bA2 := fun o => (bA o).2.2
      clear bA hmt hmi
      cases hi : s.is with
      | false =>
        have HN : Hid (leastF (r.src.take (k + 1)) = leastF (r.src.take k)) := by show _ = _; rw [HS.out, leastStep, hi]; rfl
        rw [hi] at d1
        go_wp2
        go_roundw
        case rel => exact ⟨k + 1, by omega, by go_num, HI.out.same _ HN.out⟩
        case measure => simp [intOf]; omega
      | true =>
        rw [hi] at d1
        by_cases hY : mi = false ∨ s.time < mt
        · have HN : Hid (leastF (r.src.take (k + 1)) = (s.time, true)) := by
            show _ = _
            rw [HS.out, HM.out, leastStep, hi, if_pos (by simpa using hY)]
          cases mi with
          | false =>
            clear hY
            go_wp2
            go_roundw
            case rel => exact ⟨k + 1, by omega, by go_num, HI.out.put _ _ HN.out⟩
            case measure => simp [intOf]; omega
          | true =>
            have hlt : s.time < mt := by simpa using hY
            clear hY
            go_wp2
            go_roundw
            case rel => exact ⟨k + 1, by omega, by go_num, HI.out.put _ _ HN.out⟩
            case measure => simp [intOf]; omega
        · have HN : Hid (leastF (r.src.take (k + 1)) = leastF (r.src.take k)) := by show _ = _; rw [HS.out, HM.out, leastStep, hi, if_neg (by simpa using hY)]
          have hmi : mi = true := by cases mi <;> simp at hY ⊢
          have hlt : ¬ s.time < mt := fun h => hY (.inr h)
          subst hmi
          clear hY
          go_wp2
          go_roundw
          case rel => exact ⟨k + 1, by omega, by go_num, HI.out.same _ HN.out⟩
          case measure => simp [intOf]; omega
    · have hk' : k = 8 := by omega
      subst hk'
      obtain ⟨b0, b1, fb, bA⟩ := cells2At hi.box
      obtain ⟨c0, c1, fc, cA⟩ := cells2At hi.res
      have ht : r.src.take 8 = r.src := List.take_of_length_le (by omega)
      rw [ht] at b0 b1
      have hres := hi.res
      clear bA cA hi h
      go_wp2
      have hW := cells2Put (u := .int .i64 (leastF r.src).1) (v := .bool (leastF r.src).2) hres
      have hB := ((HI.out.below.setCell (p := ⟨w.heap.size, 0, none⟩) (Nat.le_refl _) (.int .i64 (leastF r.src).1)).setCell (p := ⟨w.heap.size, 1, none⟩) (Nat.le_refl _) (.bool (leastF r.src).2))
      obtain ⟨e0, e1, -, -⟩ := cells2At hW
      generalize (wr.setCell ⟨w.heap.size, 0, none⟩ (.int .i64 (leastF r.src).1)).setCell ⟨w.heap.size, 1, none⟩ (.bool (leastF r.src).2) = W at *
      exact bodyPost_ret (v := .agg #[.int .i64 (leastF r.src).1, .bool (leastF r.src).2]) (by simp [results, Try.results32, go_sem, e0, e1]) rfl ⟨rfl, hB⟩

end Go.Proofs.Ytcfngdnmpogaoaa
