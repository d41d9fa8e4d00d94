/-
  Feeds of marks alone, of fewer bytes than an item has, of what is no item; Close: where no key is going on.
-/
import Derived.Test.YtcfngdnmpogaoaaSCount
namespace Go.Proofs.Ytcfngdnmpogaoaa
open Go.RowKit Go.MuLone

theorem frame_long {kind : Int} {key : ByteArray} {time value : Int} {tag : Nat} (h : isItemB kind key value tag = true) (ht : tag < 4294967296)
    (t1 : -9223372036854775808 ≤ time) (t2 : time < 9223372036854775808) (v1 : -9223372036854775808 ≤ value) (v2 : value < 9223372036854775808) (more : List UInt8) :
    unfShort (frameBytes kind key time value tag ++ more) = false ∧ unfOk (frameBytes kind key time value tag ++ more) = true := by
  refine ⟨?_, ?_⟩
  · unfold unfShort
    rw [frame_head h, List.length_append, frame_len h]
    simp
  · unfold unfOk
    rw [frame_crc h, frame_body h, (frame_item (time := time) (value := value) h ht t1 t2 v1 v2).1]; rfl

theorem setSrc_self (r : SCells) (n : Nat) (s : SSrc) (hs : r.src[n]? = some s) : r.setSrc n s = r := by
  have hn : n < r.src.length := (List.getElem?_eq_some_iff.1 hs).1
  have : r.src.set n s = r.src := List.ext_getElem? (fun i => by
    rw [List.getElem?_set]
    split
    · rename_i h; subst h
      exact hs.symm
    · rfl)
  rw [SCells.setSrc, this]

theorem Kept.bytes8 {w w' : World} {g : Nat} {r : SCells} (h : Kept (fun k => k = g) w w') (hf : SF w g r) : Bytes8 w w' := fun k c f hk => by
  rw [h.block k (Array.getElem?_eq_some_iff.1 hk).1 (fun e => ?_)]
  · exact hk
  · subst e
    rw [hf.blk] at hk
    simp only [Option.some.injEq, Obj.cells.injEq] at hk
    exact absurd hk.2.1 (by decide)

abbrev markB (t : Int) : List UInt8 := frameBytes 2 ⟨#[]⟩ t 0 0
theorem item_mark2 : isItemB 2 ⟨#[]⟩ 0 ((0 : Nat) : Int) = true := by
  unfold isItemB
  rw [show (⟨#[]⟩ : ByteArray).toList = [] from by rw [ByteArray.toList_eq]]
  rfl

/-- What a mark leaves. -/
def SCells.marked (r : SCells) (n : Nat) (s : SSrc) (t : Int) : SCells := (r.addMark.setSrc n (s.raised (clampT t))).moved

theorem SCells.moved_lock (r : SCells) (k : Int) : (r.lock k).moved = (r.moved).lock k := by
  unfold SCells.moved
  have e : (r.lock k).src = r.src := rfl
  rw [e]
  (repeat' split) <;> first | rfl | (rename_i h1 h2; exact absurd h1 h2) | (rename_i h1 h2; exact absurd h2 h1)

theorem feed_mark (g n : Nat) (r : SCells) (s : SSrc) (t : Int) (bv : Value) (w : World) (h : SF w g r) (hlk : r.lk = 0) (hg : r.going = .slice none 0 0) (hf : r.Fits) (hs : r.src[n]? = some s) (ho : s.opened = true) (hb : s.broken = false) (hu : s.unread = .slice none 0 0)
    (t1 : -9223372036854775808 ≤ t) (t2 : t < 9223372036854775808) (hrow : Row w 5 1 bv ((markB t).map byteV)) :
    Calls Try.prog 8 #[.pointer (some ⟨g, 0, none⟩), .int .i64 n, bv] w fun e w' => e = .returned (.int .i64 0) ∧ SF w' g (r.marked n s t) ∧ Kept (fun k => k = g) w w' := by
  obtain ⟨hl1, hl2⟩ := frame_long (kind := 2) (key := ⟨#[]⟩) (time := t) (value := 0) (tag := 0) item_mark2 (by decide) t1 t2 (by decide) (by decide) []
  rw [List.append_nil] at hl1 hl2
  obtain ⟨hv, -, -⟩ := unf_frame (kind := 2) (key := ⟨#[]⟩) (time := t) (value := 0) (tag := 0) item_mark2 (by decide) t1 t2 (by decide) (by decide) []
  rw [List.append_nil] at hv
  have hd : (markB t).drop (((markB t).getD 0 0).toNat + 3) = [] := by
    have h1 := frame_head (time := t) item_mark2 []
    rw [List.append_nil] at h1
    have h2 := frame_len (time := t) item_mark2
    rw [List.drop_of_length_le]
    show (frameBytes 2 ⟨#[]⟩ t 0 0).length ≤ ((frameBytes 2 ⟨#[]⟩ t 0 0).getD 0 0).toNat + 3
    rw [h1, h2]
    exact Nat.le_refl _
  have hlen : (markB t).length ≤ 33 := by
    have h2 := frame_len (time := t) item_mark2
    have h3 := itemBody_len (time := t) item_mark2
    show (frameBytes 2 ⟨#[]⟩ t 0 0).length ≤ 33
    omega
  have hn : n < r.src.length := (List.getElem?_eq_some_iff.1 hs).1
  have hsm : ((r.lock 1).marked n s t).src[n]? = some (s.raised (clampT t)) := by
    unfold SCells.marked
    rw [SCells.moved_src]
    exact SCells.setSrc_at _ _ _ hn
  have hru : (s.raised (clampT t)).unread = .slice none 0 0 := by unfold SSrc.raised; split <;> exact hu
  refine (feed_of g n r s bv w h hlk hs ho (fun W => SF W g ((r.lock 1).marked n s t) ∧ Kept (fun k => k = g) w W) (fun W hW => ⟨hW.1.lockAt (by unfold SCells.marked; rw [SCells.moved_lk]; rfl), hW.1.frozen _⟩) (fun W1 h1 k1 => ?_)).mono ?_
  · refine read_of g (6 + n * 5) (.slice none 0 0) bv [] (markB t) W1 _ (fun W L => Kept (fun k => k = g) w W ∧ ((L = markB t ∧ SF W g (r.lock 1)) ∨ (L = [] ∧ SF W g ((r.lock 1).marked n s t))))
      (h1.cell (by rw [← hb]; exact (r.lock 1).srcAt n 1 s hs (by omega))) (h1.cell (by rw [← hu]; exact (r.lock 1).srcAt n 2 s hs (by omega))) (Row.nil _ _ _) (hrow.bytes8 (k1.bytes8 h)) (by simp; omega)
      ⟨k1, .inl ⟨by simp, h1⟩⟩ ?_ ?_ ?_ ?_
    · rintro W W' L ⟨hk, hc⟩ hbl
      refine ⟨hk.trans (Kept.ofBelow hbl _), ?_⟩
      rcases hc with ⟨e, hsf⟩ | ⟨e, hsf⟩
      · exact .inl ⟨e, hsf.below hbl hsf.lt⟩
      · exact .inr ⟨e, hsf.below hbl hsf.lt⟩
    · rintro W L ⟨hk, hc⟩ hsh hok _
      rcases hc with ⟨rfl, hsf⟩ | ⟨rfl, hsf⟩
      · rw [hv]
        refine (do_mark g n (r.lock 1) s ⟨#[]⟩ t 0 ((0 : Nat) : Int) W hsf hs hg ⟨hf.src, hf.late⟩).mono ?_
        rintro e W' ⟨rfl, h2, k2⟩
        exact ⟨rfl, ⟨hk.trans k2, .inr ⟨hd, h2⟩⟩, k2.bytes8 hsf⟩
      · simp [unfShort] at hsh
    · rintro W L ⟨hk, hc⟩ hsh hok
      rcases hc with ⟨rfl, hsf⟩ | ⟨rfl, hsf⟩
      · rw [hl2] at hok; cases hok
      · simp [unfShort] at hsh
    · rintro W L v ⟨hk, hc⟩ hsh hr hnil
      rcases hc with ⟨rfl, hsf⟩ | ⟨rfl, hsf⟩
      · rw [hl1] at hsh; cases hsh
      · obtain rfl := hnil rfl
        refine ⟨⟨_, hsf.cell ((SCells.srcAt _ n 2 _ hsm (by omega)))⟩, hsf.frozen _, ?_, hk.setCell ⟨g, _, none⟩ _ (fun _ => rfl)⟩
        have := hsf.putSrc n 2 _ (s.raised (clampT t)) (.slice none 0 0) hsm (by omega) (by rw [← hru]; rfl)
        rw [setSrc_self _ _ _ hsm] at this
        exact this
  · rintro e w' ⟨rfl, W, ⟨h1, h2⟩, rfl⟩
    refine ⟨rfl, ?_, h2.setCell ⟨g, _, none⟩ _ (fun _ => rfl)⟩
    have := h1.putLock 0
    have e : SCells.lock ((r.lock 1).marked n s t) 0 = r.marked n s t := by
      cases r; simp only at hlk; subst hlk
      unfold SCells.marked
      rw [← SCells.moved_lock]; rfl
    rw [e] at this; exact this

theorem feed_few (g n : Nat) (r : SCells) (s : SSrc) (l : List UInt8) (bv : Value) (w : World) (h : SF w g r) (hlk : r.lk = 0) (hs : r.src[n]? = some s) (ho : s.opened = true) (hb : s.broken = false) (hu : s.unread = .slice none 0 0)
    (hl : unfShort l = true) (hll : l.length ≤ 1000) (hrow : Row w 5 1 bv (l.map byteV)) :
    Calls Try.prog 8 #[.pointer (some ⟨g, 0, none⟩), .int .i64 n, bv] w fun e w' => e = .returned (.int .i64 0) ∧ (∃ v, SF w' g (r.setSrc n ⟨s.opened, s.broken, v, s.time, s.is⟩)) ∧ Kept (fun k => k = g) w w' := by
  refine (feed_of g n r s bv w h hlk hs ho (fun W => (∃ v, SF W g ((r.lock 1).setSrc n ⟨s.opened, s.broken, v, s.time, s.is⟩)) ∧ Kept (fun k => k = g) w W) (fun W hW => ?_) (fun W1 h1 k1 => ?_)).mono ?_
  · obtain ⟨⟨v, hv⟩, _⟩ := hW
    exact ⟨hv.lockAt rfl, hv.frozen _⟩
  · refine read_of g (6 + n * 5) (.slice none 0 0) bv [] l W1 _ (fun W L => Kept (fun k => k = g) w W ∧ L = l ∧ SF W g (r.lock 1))
      (h1.cell (by rw [← hb]; exact (r.lock 1).srcAt n 1 s hs (by omega))) (h1.cell (by rw [← hu]; exact (r.lock 1).srcAt n 2 s hs (by omega))) (Row.nil _ _ _) (hrow.bytes8 (k1.bytes8 h)) (by simp; omega)
      ⟨k1, by simp, h1⟩ ?_ ?_ ?_ ?_
    · rintro W W' L ⟨hk, e, hsf⟩ hbl
      exact ⟨hk.trans (Kept.ofBelow hbl _), e, hsf.below hbl hsf.lt⟩
    · rintro W L ⟨hk, rfl, hsf⟩ hsh
      rw [hl] at hsh; cases hsh
    · rintro W L ⟨hk, rfl, hsf⟩ hsh
      rw [hl] at hsh; cases hsh
    · rintro W L v ⟨hk, rfl, hsf⟩ hsh hr hnil
      refine ⟨⟨_, hsf.cell (SCells.srcAt _ n 2 s hs (by omega))⟩, hsf.frozen _, ⟨v, ?_⟩, hk.setCell ⟨g, _, none⟩ _ (fun _ => rfl)⟩
      exact hsf.putSrc n 2 s _ v hs (by omega) rfl
  · rintro e w' ⟨rfl, W, ⟨⟨v, h1⟩, h2⟩, rfl⟩
    refine ⟨rfl, ⟨v, ?_⟩, h2.setCell ⟨g, _, none⟩ _ (fun _ => rfl)⟩
    have := h1.putLock 0
    have e : SCells.lock ((r.lock 1).setSrc n ⟨s.opened, s.broken, v, s.time, s.is⟩) 0 = r.setSrc n ⟨s.opened, s.broken, v, s.time, s.is⟩ := by
      cases r; simp only at hlk; subst hlk; rfl
    rw [e] at this; exact this

def SSrc.gone : SSrc := ⟨true, true, .slice none 0 0, 0, false⟩

theorem feed_bad (g n : Nat) (r : SCells) (s : SSrc) (l : List UInt8) (bv : Value) (w : World) (h : SF w g r) (hlk : r.lk = 0) (hg : r.going = .slice none 0 0) (hf : r.Fits) (hs : r.src[n]? = some s) (ho : s.opened = true) (hb : s.broken = false) (hu : s.unread = .slice none 0 0)
    (hl : unfShort l = false) (hl2 : unfOk l = false) (hll : l.length ≤ 1000) (hrow : Row w 5 1 bv (l.map byteV)) :
    Calls Try.prog 8 #[.pointer (some ⟨g, 0, none⟩), .int .i64 n, bv] w fun e w' => e = .returned (.int .i64 0) ∧ SF w' g (r.setSrc n SSrc.gone).addBroken.moved ∧ Kept (fun k => k = g) w w' := by
  refine (feed_of g n r s bv w h hlk hs ho (fun W => SF W g ((r.lock 1).setSrc n SSrc.gone).addBroken.moved ∧ Kept (fun k => k = g) w W) (fun W hW => ⟨hW.1.lockAt (by rw [SCells.moved_lk]; rfl), hW.1.frozen _⟩) (fun W1 h1 k1 => ?_)).mono ?_
  · refine read_of g (6 + n * 5) (.slice none 0 0) bv [] l W1 _ (fun W L => Kept (fun k => k = g) w W ∧ L = l ∧ SF W g (r.lock 1))
      (h1.cell (by rw [← hb]; exact (r.lock 1).srcAt n 1 s hs (by omega))) (h1.cell (by rw [← hu]; exact (r.lock 1).srcAt n 2 s hs (by omega))) (Row.nil _ _ _) (hrow.bytes8 (k1.bytes8 h)) (by simp; omega)
      ⟨k1, by simp, h1⟩ ?_ ?_ ?_ ?_
    · rintro W W' L ⟨hk, e, hsf⟩ hbl
      exact ⟨hk.trans (Kept.ofBelow hbl _), e, hsf.below hbl hsf.lt⟩
    · rintro W L ⟨hk, rfl, hsf⟩ hsh hok
      rw [hl2] at hok; cases hok
    · rintro W L ⟨hk, rfl, hsf⟩ hsh hok
      refine (breakOff_nil g n (r.lock 1) s W hsf hs hg ⟨hf.src, hf.late⟩).mono ?_
      rintro e W' ⟨rfl, h2, k2⟩
      exact ⟨rfl, h2, hk.trans k2⟩
    · rintro W L v ⟨hk, rfl, hsf⟩ hsh
      rw [hl] at hsh; cases hsh
  · rintro e w' ⟨rfl, W, ⟨h1, h2⟩, rfl⟩
    refine ⟨rfl, ?_, h2.setCell ⟨g, _, none⟩ _ (fun _ => rfl)⟩
    have := h1.putLock 0
    have e : SCells.lock ((r.lock 1).setSrc n SSrc.gone).addBroken.moved 0 = (r.setSrc n SSrc.gone).addBroken.moved := by
      cases r; simp only at hlk; subst hlk
      rw [← SCells.moved_lock]; rfl
    rw [e] at this; exact this

theorem close_nil (g n : Nat) (r : SCells) (s : SSrc) (w : World) (h : SF w g r) (hlk : r.lk = 0) (hg : r.going = .slice none 0 0) (hf : r.Fits) (hs : r.src[n]? = some s) (ho : s.opened = true) :
    Calls Try.prog 10 #[.pointer (some ⟨g, 0, none⟩), .int .i64 n] w fun e w' => e = .returned (.int .i64 0) ∧ SF w' g (r.setSrc n SSrc.zero).moved ∧ Kept (fun k => k = g) w w' := by
  refine (close_of g n r s w h hlk hs ho (fun W => SF W g ((r.lock 1).setSrc n SSrc.zero).moved ∧ Kept (fun k => k = g) w W) (fun W hW => ⟨hW.1.lockAt (by rw [SCells.moved_lk]; rfl), hW.1.frozen _⟩) (fun W1 h1 k1 => ?_)).mono ?_
  · refine (moveLine_nil g _ W1 h1 hg (SCells.setSrc_fits (r := r.lock 1) ⟨hf.src, hf.late⟩ n _ (by simp [SSrc.zero]))).mono ?_
    rintro e W' ⟨rfl, h2, k2⟩
    exact ⟨rfl, h2, k1.trans k2⟩
  · rintro e w' ⟨rfl, W, ⟨h1, h2⟩, rfl⟩
    refine ⟨rfl, ?_, h2.setCell ⟨g, _, none⟩ _ (fun _ => rfl)⟩
    have := h1.putLock 0
    have e : SCells.lock ((r.lock 1).setSrc n SSrc.zero).moved 0 = (r.setSrc n SSrc.zero).moved := by
      cases r; simp only at hlk; subst hlk
      rw [← SCells.moved_lock]; rfl
    rw [e] at this; exact this

end Go.Proofs.Ytcfngdnmpogaoaa
