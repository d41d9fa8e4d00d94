/-
  The code's flow as cells.
-/
import Derived.Test.YtcfngdnmpogaoaaConfN
import Derived.Test.YtcfngdnmpogaoaaKept
import Derived.Test.YtcfngdnmpogaoaaAtom
namespace Go.Proofs.Ytcfngdnmpogaoaa
open Go.RowKit

/-- The cells of one source of the code's flow. -/
structure SSrc where
  opened : Bool
  broken : Bool
  unread : Value
  time : Int
  is : Bool

def SSrc.cells (s : SSrc) : List Value := [.bool s.opened, .bool s.broken, s.unread, .int .i64 s.time, .bool s.is]
def SSrc.zero : SSrc := ⟨false, false, .slice none 0 0, 0, false⟩

structure SCells where
  lk : Int
  size : Int
  slide : Int
  late : Int
  keys : Int
  src : List SSrc
  lt : Int
  li : Bool
  going : Value
  ended : Value
  n : RCounts

def SCells.head (r : SCells) : List Value := [.int .i32 r.lk, .int .u32 0, .int .i64 r.size, .int .i64 r.slide, .int .i64 r.late, .int .i64 r.keys]
def SCells.tail (r : SCells) : List Value := [.int .i64 r.lt, .bool r.li, r.going, r.ended] ++ r.n.cells
def SCells.cells (r : SCells) : List Value := r.head ++ (r.src.flatMap SSrc.cells ++ r.tail)

def SCells.new (size slide late keys : Int) : SCells :=
  ⟨0, size, slide, late, keys, List.replicate 8 SSrc.zero, 0, false, .slice none 0 0, .slice none 0 0, ⟨0, 0, 0, 0, 0, 0⟩⟩

/-- The flow lies in block 'g'. -/
structure SF (w : World) (g : Nat) (r : SCells) : Prop where
  blk : w.heap[g]? = some (.cells r.cells.toArray 60)
  len : r.src.length = 8

theorem SF.cell {w : World} {g : Nat} {r : SCells} (h : SF w g r) {i : Nat} {v : Value} (hi : r.cells[i]? = some v) : w.cell? ⟨g, i, none⟩ = some v := by
  simp [World.cell?, h.blk, hi]

theorem SF.frozen {w : World} {g : Nat} {r : SCells} (h : SF w g r) (i : Nat) : w.frozen? ⟨g, i, none⟩ = false := by
  simp [World.frozen?, h.blk]

theorem SF.lt {w : World} {g : Nat} {r : SCells} (h : SF w g r) : g < w.heap.size := (Array.getElem?_eq_some_iff.1 h.blk).1

theorem SF.congr {w w' : World} {g : Nat} {r : SCells} (h : SF w g r) (hb : w'.heap[g]? = w.heap[g]?) : SF w' g r := ⟨by rw [hb]; exact h.blk, h.len⟩

theorem SF.below {w w' : World} {B g : Nat} {r : SCells} (h : SF w g r) (hb : Below B w w') (hg : g < B) : SF w' g r := h.congr (hb.block g hg)

theorem sflat5 (l : List SSrc) (j k : Nat) (s : SSrc) (hs : l[j]? = some s) (hk : k < 5) : (l.flatMap SSrc.cells)[j * 5 + k]? = s.cells[k]? := by
  induction l generalizing j with
  | nil => simp at hs
  | cons a l ih =>
    have ha : a.cells.length = 5 := rfl
    cases j with
    | zero =>
      simp at hs
      subst hs
      rw [List.flatMap_cons, List.getElem?_append_left (by omega)]
      simp
    | succ j =>
      simp at hs
      rw [List.flatMap_cons, List.getElem?_append_right (by omega), ← ih j hs]
      congr 1
      omega

theorem sflat5_length (l : List SSrc) : (l.flatMap SSrc.cells).length = 5 * l.length := by
  induction l with
  | nil => rfl
  | cons a l ih => rw [List.flatMap_cons, List.length_append, ih]; simp [SSrc.cells]; omega

theorem SCells.srcAt (r : SCells) (j k : Nat) (s : SSrc) (hs : r.src[j]? = some s) (hk : k < 5) : r.cells[6 + j * 5 + k]? = s.cells[k]? := by
  have hj : j < r.src.length := (List.getElem?_eq_some_iff.1 hs).1
  have hl := sflat5_length r.src
  have hh : r.head.length = 6 := rfl
  rw [SCells.cells, List.getElem?_append_right (by omega), List.getElem?_append_left (by omega), ← sflat5 r.src j k s hs hk]
  congr 1
  omega

theorem SF.headAt {w : World} {g : Nat} {r : SCells} (h : SF w g r) (k : Nat) {v : Value} (hv : r.head[k]? = some v) : w.cell? ⟨g, k, none⟩ = some v := by
  have hk : k < r.head.length := (List.getElem?_eq_some_iff.1 hv).1
  refine h.cell ?_
  rw [SCells.cells, List.getElem?_append_left hk]; exact hv

theorem SF.tailAt {w : World} {g : Nat} {r : SCells} (h : SF w g r) (k : Nat) {v : Value} (hv : r.tail[k]? = some v) : w.cell? ⟨g, 46 + k, none⟩ = some v := by
  have hl := sflat5_length r.src
  have hh : r.head.length = 6 := rfl
  have h8 := h.len
  refine h.cell ?_
  rw [SCells.cells, List.getElem?_append_right (by omega), List.getElem?_append_right (by omega), ← hv]
  congr 1
  omega

theorem sflat5_set (l : List SSrc) (j k : Nat) (s s' : SSrc) (v : Value) (hs : l[j]? = some s) (hk : k < 5) (hc : s'.cells = s.cells.set k v) : (l.set j s').flatMap SSrc.cells = (l.flatMap SSrc.cells).set (j * 5 + k) v := by
  induction l generalizing j with
  | nil => simp at hs
  | cons a l ih =>
    have ha : a.cells.length = 5 := rfl
    cases j with
    | zero =>
      simp at hs
      subst hs
      rw [List.set_cons_zero, List.flatMap_cons, List.flatMap_cons, hc, List.set_append_left _ _ (by omega)]
      simp
    | succ j =>
      simp at hs
      rw [List.set_cons_succ, List.flatMap_cons, List.flatMap_cons, ih j hs, List.set_append_right _ _ (by omega)]
      congr 2
      omega

/-- One source turned. -/
def SCells.setSrc (r : SCells) (j : Nat) (s : SSrc) : SCells := { r with src := r.src.set j s }

theorem SCells.setSrc_cells (r : SCells) (j k : Nat) (s s' : SSrc) (v : Value) (hs : r.src[j]? = some s) (hk : k < 5) (hc : s'.cells = s.cells.set k v) : (r.setSrc j s').cells = r.cells.set (6 + j * 5 + k) v := by
  have hj : j < r.src.length := (List.getElem?_eq_some_iff.1 hs).1
  have hl := sflat5_length r.src
  have hh : r.head.length = 6 := rfl
  have e : 6 + j * 5 + k - 6 = j * 5 + k := by omega
  show r.head ++ ((r.src.set j s').flatMap SSrc.cells ++ r.tail) = (r.head ++ (r.src.flatMap SSrc.cells ++ r.tail)).set _ v
  rw [sflat5_set r.src j k s s' v hs hk hc, List.set_append_right _ _ (by omega), hh, e, List.set_append_left _ _ (by omega)]

theorem SCells.setSrc_setSrc (r : SCells) (j : Nat) (s s' : SSrc) : (r.setSrc j s).setSrc j s' = r.setSrc j s' := by
  simp [SCells.setSrc]

theorem SCells.setSrc_at (r : SCells) (j : Nat) (s : SSrc) (hj : j < r.src.length) : (r.setSrc j s).src[j]? = some s := by
  simp [SCells.setSrc, hj]

theorem SF.put {w : World} {g : Nat} {r r' : SCells} (h : SF w g r) (i : Nat) (v : Value) (hr : r'.cells = r.cells.set i v) (hl : r'.src.length = 8) : SF (w.setCell ⟨g, i, none⟩ v) g r' :=
  ⟨by rw [hr]; simp [World.setCell, Array.getElem?_modify, h.blk], hl⟩

theorem SF.putSrc {w : World} {g : Nat} {r : SCells} (h : SF w g r) (j k : Nat) (s s' : SSrc) (v : Value) (hs : r.src[j]? = some s) (hk : k < 5) (hc : s'.cells = s.cells.set k v) : SF (w.setCell ⟨g, 6 + j * 5 + k, none⟩ v) g (r.setSrc j s') :=
  h.put _ _ (r.setSrc_cells j k s s' v hs hk hc) (by simp [SCells.setSrc, h.len])

theorem SF.putHead {w : World} {g : Nat} {r r' : SCells} (h : SF w g r) (k : Nat) (v : Value) (hk : k < 6) (h1 : r'.head = r.head.set k v) (h2 : r'.src = r.src) (h3 : r'.tail = r.tail) : SF (w.setCell ⟨g, k, none⟩ v) g r' := by
  refine h.put _ _ ?_ (by rw [h2]; exact h.len)
  have hh : r.head.length = 6 := rfl
  rw [SCells.cells, SCells.cells, h1, h2, h3, List.set_append_left _ _ (by omega)]

theorem SF.putTail {w : World} {g : Nat} {r r' : SCells} (h : SF w g r) (k : Nat) (v : Value) (h1 : r'.head = r.head) (h2 : r'.src = r.src) (h3 : r'.tail = r.tail.set k v) : SF (w.setCell ⟨g, 46 + k, none⟩ v) g r' := by
  refine h.put _ _ ?_ (by rw [h2]; exact h.len)
  have hh : r.head.length = 6 := rfl
  have hl := sflat5_length r.src
  have h8 := h.len
  rw [SCells.cells, SCells.cells, h1, h2, h3, List.set_append_right _ _ (by omega), List.set_append_right _ _ (by omega)]
  congr 3
  omega

/-- A whole source stored. -/
theorem SF.putAll {w : World} {g : Nat} {r : SCells} (h : SF w g r) (j : Nat) (s : SSrc) (a b : Bool) (c : Value) (d : Int) (e : Bool) (hs : r.src[j]? = some s) :
    SF (((((w.setCell ⟨g, 6 + j * 5, none⟩ (.bool a)).setCell ⟨g, 6 + j * 5 + 1, none⟩ (.bool b)).setCell ⟨g, 6 + j * 5 + 2, none⟩ c).setCell ⟨g, 6 + j * 5 + 3, none⟩ (.int .i64 d)).setCell ⟨g, 6 + j * 5 + 4, none⟩ (.bool e)) g (r.setSrc j ⟨a, b, c, d, e⟩) := by
  have hj : j < r.src.length := (List.getElem?_eq_some_iff.1 hs).1
  have h1 := h.putSrc j 0 s ⟨a, s.broken, s.unread, s.time, s.is⟩ (.bool a) hs (by omega) rfl
  have h2 := h1.putSrc j 1 _ ⟨a, b, s.unread, s.time, s.is⟩ (.bool b) (r.setSrc_at j _ hj) (by omega) rfl
  rw [SCells.setSrc_setSrc] at h2
  have h3 := h2.putSrc j 2 _ ⟨a, b, c, s.time, s.is⟩ c (r.setSrc_at j _ hj) (by omega) rfl
  rw [SCells.setSrc_setSrc] at h3
  have h4 := h3.putSrc j 3 _ ⟨a, b, c, d, s.is⟩ (.int .i64 d) (r.setSrc_at j _ hj) (by omega) rfl
  rw [SCells.setSrc_setSrc] at h4
  have h5 := h4.putSrc j 4 _ ⟨a, b, c, d, e⟩ (.bool e) (r.setSrc_at j _ hj) (by omega) rfl
  rw [SCells.setSrc_setSrc] at h5
  exact h5

/-- A source's moment stored. -/
theorem SF.putMoment {w : World} {g : Nat} {r : SCells} (h : SF w g r) (j : Nat) (s : SSrc) (d : Int) (e : Bool) (hs : r.src[j]? = some s) :
    SF ((w.setCell ⟨g, 6 + j * 5 + 3, none⟩ (.int .i64 d)).setCell ⟨g, 6 + j * 5 + 4, none⟩ (.bool e)) g (r.setSrc j ⟨s.opened, s.broken, s.unread, d, e⟩) := by
  have hj : j < r.src.length := (List.getElem?_eq_some_iff.1 hs).1
  have h4 := h.putSrc j 3 s ⟨s.opened, s.broken, s.unread, d, s.is⟩ (.int .i64 d) hs (by omega) rfl
  have h5 := h4.putSrc j 4 _ ⟨s.opened, s.broken, s.unread, d, e⟩ (.bool e) (r.setSrc_at j _ hj) (by omega) rfl
  rw [SCells.setSrc_setSrc] at h5
  exact h5

/-- The lock's state turned. -/
def SCells.lock (r : SCells) (k : Int) : SCells := { r with lk := k }
theorem SF.putLock {w : World} {g : Nat} {r : SCells} (h : SF w g r) (k : Int) : SF (w.setCell ⟨g, 0, none⟩ (.int .i32 k)) g (r.lock k) := h.putHead 0 _ (by omega) rfl rfl rfl
/-- The line turned. -/
def SCells.setLine (r : SCells) (t : Int) (i : Bool) : SCells := { r with lt := t, li := i }
theorem SF.putLine {w : World} {g : Nat} {r : SCells} (h : SF w g r) (t : Int) (i : Bool) : SF ((w.setCell ⟨g, 46, none⟩ (.int .i64 t)).setCell ⟨g, 47, none⟩ (.bool i)) g (r.setLine t i) := by
  have h1 : SF (w.setCell ⟨g, 46 + 0, none⟩ (.int .i64 t)) g (r.setLine t r.li) := h.putTail 0 _ rfl rfl rfl
  exact h1.putTail 1 (.bool i) rfl rfl rfl

end Go.Proofs.Ytcfngdnmpogaoaa
