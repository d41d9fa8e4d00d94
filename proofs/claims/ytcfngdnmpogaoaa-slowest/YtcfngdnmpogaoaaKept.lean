import Derived.Test.YtcfngdnmpogaoaaHold
import Derived.Deep.RegionHeld3
namespace Go.Proofs.Ytcfngdnmpogaoaa
open Go.RowKit

/-- Of what was there nothing has turned but the blocks X. -/
structure Kept (X : Nat → Prop) (w W : World) : Prop where
  os : W.os = w.os
  tape : W.tape = w.tape
  output : W.output = w.output
  size : w.heap.size ≤ W.heap.size
  block : ∀ k, k < w.heap.size → ¬ X k → W.heap[k]? = w.heap[k]?

theorem Kept.refl (X : Nat → Prop) (w : World) : Kept X w w := ⟨rfl, rfl, rfl, Nat.le_refl _, fun _ _ _ => rfl⟩
theorem Kept.trans {X : Nat → Prop} {a b c : World} (h : Kept X a b) (k : Kept X b c) : Kept X a c :=
  ⟨k.os.trans h.os, k.tape.trans h.tape, k.output.trans h.output, Nat.le_trans h.size k.size, fun i hi hx => (k.block i (Nat.lt_of_lt_of_le hi h.size) hx).trans (h.block i hi hx)⟩
theorem Kept.mono {X Y : Nat → Prop} {a b : World} (h : Kept X a b) (hxy : ∀ k, k < a.heap.size → X k → Y k) : Kept Y a b :=
  ⟨h.os, h.tape, h.output, h.size, fun i hi hy => h.block i hi (fun hx => hy (hxy i hi hx))⟩
/-- Two steps with their own blocks: what the second turns is new or among the first's. -/
theorem Kept.step {X Y : Nat → Prop} {a b c : World} (h : Kept X a b) (k : Kept Y b c) (hy : ∀ i, i < a.heap.size → Y i → X i) : Kept X a c :=
  ⟨k.os.trans h.os, k.tape.trans h.tape, k.output.trans h.output, Nat.le_trans h.size k.size, fun i hi hx => (k.block i (Nat.lt_of_lt_of_le hi h.size) (fun h' => hx (hy i hi h'))).trans (h.block i hi hx)⟩
theorem Kept.ofGrown {w W : World} {row : Option Nat} (h : w.grownBy W row) : Kept (fun k => row = some k) w W := ⟨h.os, h.tape, h.output, h.size, fun i hi hx => h.block i hi (fun e => hx e.symm)⟩
theorem Kept.ofBelow {w W : World} (h : Below w.heap.size w W) (X : Nat → Prop) : Kept X w W := ⟨h.os, h.tape, h.output, h.size, fun i hi _ => h.block i hi⟩
theorem Kept.toBelow {w W : World} {B : Nat} {X : Nat → Prop} (h : Kept X w W) (hB : B ≤ w.heap.size) (hX : ∀ k, k < B → ¬ X k) : Below B w W := ⟨h.os, h.tape, h.output, h.size, fun i hi => h.block i (by omega) (hX i hi)⟩
theorem Kept.alloc {X : Nat → Prop} {a w : World} (h : Kept X a w) (o : Obj) : Kept X a (w.alloc o) := h.step (Kept.ofBelow ((Below.refl _ w).alloc (Nat.le_refl _) o) (fun _ => False)) (fun _ _ h => h.elim)
theorem Kept.drew {X : Nat → Prop} {a w : World} (h : Kept X a w) : Kept X a w.drew := ⟨h.os, h.tape, h.output, h.size, h.block⟩
theorem Kept.drewN {X : Nat → Prop} {a w : World} (h : Kept X a w) (n : Nat) : Kept X a (w.drewN n) := h.step (Kept.ofBelow (below_drewN (Below.refl _ w) n) (fun _ => False)) (fun _ _ h => h.elim)
theorem Kept.setCell {X : Nat → Prop} {a w : World} (h : Kept X a w) (p : Addr) (u : Value) (hp : p.block < a.heap.size → X p.block) : Kept X a (w.setCell p u) :=
  ⟨h.os, h.tape, h.output, Nat.le_trans h.size (by simp [World.setCell]), fun i hi hx => by
    rw [Below.heap_setCell _ _ _ _ (fun e => hx (by subst e; exact hp hi))]; exact h.block i hi hx⟩
theorem Row.kept {X : Nat → Prop} {w W : World} {e : TypeId} {sz : Nat} {v : Value} {xs : List Value} (h : Row w e sz v xs) (hk : Kept X w W) (hx : ∀ k, v.ownBlock = some k → ¬ X k) : Row W e sz v xs :=
  h.congr fun k hv => hk.block k (h.blk_lt hv).1 (hx k hv)
theorem Row.setCell {w : World} {e : TypeId} {sz : Nat} {v : Value} {xs : List Value} (h : Row w e sz v xs) (p : Addr) (u : Value) (hp : v.ownBlock ≠ some p.block) : Row (w.setCell p u) e sz v xs :=
  h.congr fun k hv => Below.heap_setCell _ _ _ _ (fun he => hp (by rw [hv, he]))
/-- A block of other elements is no slice's of these. -/
theorem Row.ne_block {w : World} {e e' : TypeId} {sz : Nat} {v : Value} {xs : List Value} (h : Row w e sz v xs) {g : Nat} {c : Array Value} {f : Nat × Nat} (hg : w.heap[g]? = some (.cells c e' f)) (hne : e ≠ e') : v.ownBlock ≠ some g := by
  intro hk
  obtain ⟨_, c', hc'⟩ := h.blk_lt hk
  rw [hg] at hc'
  simp only [Option.some.injEq, Obj.cells.injEq] at hc'
  exact hne hc'.2.1.symm

/-- append, as one step of a region that draws its order. -/
theorem step_append {P : Program} {w : World} {ops : Array Oper} {o : Oper} {a : Act} {K : Act → World → Prop} {Q : Exit → Act → World → Prop} {E : Prop} (hgd : o.guard = none) (s x : Operand) (t tx : TypeId)
    (ho : o.op = .call { callee := .builtin .append, args := #[s, x], argTypes := #[t, tx] })
    (e : TypeId) (i : TypeInfo) (z : Value) (sz bytes : Nat) (ht : P.underlying t = some (.slice e)) (hi : P.info? e = some i) (hz : i.zero = some z)
    (hsize : i.size = sz) (hby : i.bytes = bytes) (hzs : z.cells.size = sz) (hsz : 0 < sz)
    (v : Value) (xs : List Value) (hev : a.eval s = v) (hrow : Row w e sz v xs) (xv : Value) (m : Nat) (news : List Value) (hx : a.eval x = xv) (hs : Src P sz tx xv m news w) (hm : 0 < m)
    (h63 : xs.length + m ≤ maxLen) (hbytes : (xs.length + m * sz) * bytes ≤ 140737488355328 * sz)
    (h : ∀ v' w', App w w' e sz v v' xs news → K (a.put o.dst v') w') :
    if Region.wanted o (yielded ops a.tmps) = true then Oper.wp P o a w K Q else E := by
  have hw : Region.wanted o (yielded ops a.tmps) = true := by simp [Region.wanted, hgd]
  rw [if_pos hw]
  exact wp_append w s x t tx ho e i z sz bytes ht hi hz hsize hby hzs hsz v xs hev hrow xv m news hx hs hm h63 hbytes h

end Go.Proofs.Ytcfngdnmpogaoaa
