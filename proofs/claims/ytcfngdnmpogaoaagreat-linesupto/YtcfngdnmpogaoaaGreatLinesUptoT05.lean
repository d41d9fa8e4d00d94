import Derived.Test.YtcfngdnmpogaoaaGreatLinesUptoT04
import Derived.Deep.RegionWith
import Derived.StillTailTactics

namespace Go.Proofs.YtcfngdnmpogaoaaGreat
open Go.RowKit

def itemBody (kind : Int) (key : ByteArray) (time value : Int) (tag : Nat) : List UInt8 := if kind = 2 then bodyMark time else bodyEvent key.data.toList time value tag
def frameBytes (kind : Int) (key : ByteArray) (time value : Int) (tag : Nat) : List UInt8 :=
  UInt8.ofNat (itemBody kind key time value tag).length :: (itemBody kind key time value tag ++ low (crc (itemBody kind key time value tag)) 2)

theorem keyLen (key : ByteArray) : key.data.toList.length = key.size := by rw [Array.length_toList]; rfl

theorem isItemB_cases {kind : Int} {key : ByteArray} {value tag : Int} (h : isItemB kind key value tag = true) : (kind = 2 ∧ key.toList = [] ∧ value = 0 ∧ tag = 0) ∨ (kind = 1 ∧ 1 ≤ key.size ∧ key.size ≤ 8) := by
  unfold isItemB at h
  split at h
  · simp only [Bool.and_eq_true, decide_eq_true_eq, beq_iff_eq] at h
    exact .inl ⟨by assumption, h.1.1, h.1.2, h.2⟩
  · simp only [Bool.and_eq_true, decide_eq_true_eq, beq_iff_eq] at h
    exact .inr ⟨h.1.1, h.1.2, h.2⟩

theorem itemBody_len {kind : Int} {key : ByteArray} {time value : Int} {tag : Nat} (h : isItemB kind key value tag = true) : 9 ≤ (itemBody kind key time value tag).length ∧ (itemBody kind key time value tag).length ≤ 30 := by
  rcases isItemB_cases h with ⟨rfl, _⟩ | ⟨rfl, h1, h8⟩
  · simp [itemBody, bodyMark, low_length]
  · have := keyLen key
    simp [itemBody, bodyEvent, low_length]; omega

theorem bodyOf_any (kind : Int) (key : ByteArray) (time value : Int) (tag : Nat) (w : World) (h : isItemB kind key value tag = true) (ht : tag < 4294967296) :
    Calls Tryz.prog 36 #[.agg #[.int .i64 kind, .string key, .int .i64 time, .int .i64 value, .int .u32 (tag : Int)]] w fun e w' =>
      ∃ v', e = .returned v' ∧ Row w' 5 1 v' ((itemBody kind key time value tag).map byteV) ∧ (∀ g, v'.ownBlock = some g → w.heap.size ≤ g) ∧ Below w.heap.size w w' := by
  rcases isItemB_cases h with ⟨rfl, _⟩ | ⟨rfl, h1, h8⟩
  · exact bodyMark_any key time value tag w
  · exact bodyEvent_any key time value tag w h1 h8 ht

set_option maxHeartbeats 800000 in
theorem frame_no (kind : Int) (key : ByteArray) (time value tag : Int) (w : World) (hk : key.size ≤ 9223372036854775807) (h : isItemB kind key value tag = false) :
    Calls Tryz.prog 15 #[.agg #[.int .i64 kind, .string key, .int .i64 time, .int .i64 value, .int .u32 tag]] w fun e w' =>
      e = .returned (.tuple #[.slice none 0 0, .int .i64 2]) ∧ Below w.heap.size w w' := by
  go_enter Tryz.func15, Tryz.ntmps15
  go_wp2_with fail
  refine (isItem_any kind key time value tag _ hk).mono ?_
  rintro e w1 ⟨rfl, hb⟩
  go_wp2
  go_ret2
  exact ⟨rfl, ((Below.refl _ w).alloc (Nat.le_refl _) _).trans (hb.mono (by simp))⟩

set_option maxHeartbeats 800000 in
theorem frame_yes (kind : Int) (key : ByteArray) (time value : Int) (tag : Nat) (w : World) (hk : key.size ≤ 9223372036854775807) (h : isItemB kind key value tag = true) (ht : tag < 4294967296) :
    Calls Tryz.prog 15 #[.agg #[.int .i64 kind, .string key, .int .i64 time, .int .i64 value, .int .u32 (tag : Int)]] w fun e w' =>
      ∃ v', e = .returned (.tuple #[v', .int .i64 0]) ∧ Row w' 5 1 v' ((frameBytes kind key time value tag).map byteV) ∧ (∀ g, v'.ownBlock = some g → w.heap.size ≤ g) ∧ Below w.heap.size w w' := by
  obtain ⟨i, hi, hz0, hz1, hz2⟩ := info_parts info5
  obtain ⟨hl9, hl30⟩ := itemBody_len (time := time) h
  have hcl : Hid (crc (itemBody kind key time value tag) < 65536) := crc_lt _
  go_enter Tryz.func15, Tryz.ntmps15
  go_wp2_with fail
  refine (isItem_any kind key time value tag _ hk).mono ?_
  rintro e w1 ⟨rfl, hb1⟩
  have c0 : ∀ j, j < 5 → w1.cell? ⟨w.heap.size, j, none⟩ = (w.alloc (.cells #[.int .i64 kind, .string key, .int .i64 time, .int .i64 value, .int .u32 (tag : Int)] 28)).cell? ⟨w.heap.size, j, none⟩ := fun j _ => hb1.cell (by simp)
  have d0 : w1.cell? ⟨w.heap.size, 0, none⟩ = some (.int .i64 kind) := by rw [c0 0 (by omega)]; simp
  have d1 : w1.cell? ⟨w.heap.size, 1, none⟩ = some (.string key) := by rw [c0 1 (by omega)]; simp
  have d2 : w1.cell? ⟨w.heap.size, 2, none⟩ = some (.int .i64 time) := by rw [c0 2 (by omega)]; simp
  have d3 : w1.cell? ⟨w.heap.size, 3, none⟩ = some (.int .i64 value) := by rw [c0 3 (by omega)]; simp
  have d4 : w1.cell? ⟨w.heap.size, 4, none⟩ = some (.int .u32 (tag : Int)) := by rw [c0 4 (by omega)]; simp
  clear c0
  have hbw1 : Below w.heap.size w w1 := ((Below.refl _ w).alloc (Nat.le_refl _) _).trans (hb1.mono (by simp))
  have hs1 : w.heap.size < w1.heap.size := by have := hb1.size; simp at this; omega
  clear hb1
  go_wp2_with fail
  refine (bodyOf_any kind key time value tag w1 h ht).mono ?_
  rintro e w2 ⟨v2, rfl, hr2, hg2, hb2⟩
  clear d0 d1 d2 d3 d4
  have HF : Hid (frameBytes kind key time value tag = UInt8.ofNat (itemBody kind key time value tag).length :: (itemBody kind key time value tag ++ low (crc (itemBody kind key time value tag)) 2)) := rfl
  generalize itemBody kind key time value tag = bd at *
  obtain ⟨g2, off2, n2, cap2, rfl, hn2, hc2⟩ := hr2.shape (by intro hh; have := congrArg List.length hh; simp at this; simp [this] at hl9)
  obtain ⟨hby2, rfl⟩ := hr2.bytes
  have hg2' := hg2 g2 rfl
  have hbw2 : Below w.heap.size w w2 := hbw1.trans (hb2.mono (by omega))
  have hs2 : w1.heap.size ≤ w2.heap.size := hb2.size
  have hlz : (bd.length : Int) % 256 = bd.length := by omega
  have hg22 := (hr2.blk_lt (k := g2) rfl).1
  clear hb2 hbw1 hg2
  go_wp2_with (at_builtin; go_must (refine wpList_append _ rfl _ _ _ _ rfl 5 i (.int .u8 0) 1 1 Tryz.underlying30 hi hz0 hz1 hz2 rfl Nat.one_pos (.slice (some ⟨w2.heap.size, 0, none⟩) 1 1) [.int .u8 (bd.length : Int)] rfl ?hrow (.slice (some ⟨g2, off2, none⟩) bd.length cap2) bd.length (bd.map byteV) rfl ?hsrc ?hpos ?h63 ?hby ?next))
  case hrow => exact Row.lit _ _ _ _ _ rfl rfl (by decide)
  case hpos => omega
  case hsrc =>
    refine Src.ofSlice _ Tryz.underlying30 ⟨g2, off2, none⟩ bd.length cap2 _ (by simp) (fun j u hu => ?_) (fun u hu => ?_)
    · rw [Addr.add_lit]
      have hj : j < bd.length := by have := (List.getElem?_eq_some_iff.1 hu).1; simpa using this
      rw [(hr2.alloc _).cell j (by omega)]; exact hu
    · obtain ⟨_, _, rfl⟩ := List.mem_map.1 hu; rfl
  case h63 => simp only [maxLen, List.length_cons, List.length_nil]; omega
  case hby => simp only [List.length_cons, List.length_nil]; omega
  intro v3 w3 ha
  have hb3 : Below w2.heap.size w2 w3 := ((Below.refl _ _).alloc (Nat.le_refl _) _).trans (ha.below (by intro g hg; simp [Value.ownBlock] at hg; omega) (by simp))
  have hg3 := ha.blk (B := w2.heap.size) (by intro g hg; simp [Value.ownBlock] at hg; omega) (by simp)
  have hr3 := ha.row
  rw [show [Value.int .u8 (bd.length : Int)] ++ bd.map byteV = (UInt8.ofNat bd.length :: bd).map byteV from by
    have e : (UInt8.ofNat bd.length).toNat = bd.length := by simp [UInt8.toNat_ofNat']; omega
    simp [byteV, e]] at hr3
  clear ha
  have hby3 : Bytes w3 g2 off2 bd := fun j hj => by rw [hb3.cell (by exact hg22)]; exact hby2 j hj
  go_wp2_with fail
  refine (check_any g2 off2 cap2 bd w3 (by omega) hby3).mono ?_
  rintro e w4 ⟨rfl, rfl⟩
  have hs3 := hb3.size
  generalize hcx : crc bd = C at *
  clear hcx
  have hcl' := hcl.out
  go_wp2_with fail
  refine (appendLow_any v3 _ C 2 w2.heap.size _ hr3 hg3 hs3 (by omega) (by omega) (by simp; omega)).mono ?_
  rintro e w5 ⟨v5, rfl, hr5, hg5, hb5⟩
  go_wp2
  go_ret2
  refine ⟨v5, rfl, by rw [HF.out]; exact hr5, fun g hg => ?_, hbw2.trans ((hb3.trans hb5).mono (by omega))⟩
  have := hg5 g hg; omega

theorem toList_nil {s : ByteArray} (h : s.toList = []) : s.data.toList = [] := by rw [← ByteArray.toList_eq]; exact h

set_option maxHeartbeats 800000 in
theorem rframe_no (kind : Int) (key : ByteArray) (time value tag : Int) (w : World) (hk : key.size ≤ 9223372036854775807) (h : isItemB kind key value tag = false) :
    Calls Tryz.prog 31 #[.agg #[.int .i64 kind, .string key, .int .i64 time, .int .i64 value, .int .u32 tag]] w fun e w' =>
      e = .returned (.tuple #[.string ⟨#[]⟩, .int .i64 2]) ∧ Below w.heap.size w w' := by
  go_enter Tryz.func31, Tryz.ntmps31
  go_wp2_with fail
  refine (rIsItem_any kind key time value tag _ hk).mono ?_
  rintro e w1 ⟨rfl, hb⟩
  go_wp2
  go_ret2
  exact ⟨rfl, ((Below.refl _ w).alloc (Nat.le_refl _) _).trans (hb.mono (by simp))⟩


end Go.Proofs.YtcfngdnmpogaoaaGreat

namespace Go.Proofs.YtcfngdnmpogaoaaGreat
open Go.RowKit

/-- The same 64 bits with a sign. -/
def toI (x : Nat) : Int := wrap64 (x : Int)

def itemNone : Value := .agg #[.int .i64 0, .string ⟨#[]⟩, .int .i64 0, .int .i64 0, .int .u32 0]
def markVal (body : List UInt8) : Value := .agg #[.int .i64 2, .string ⟨#[]⟩, .int .i64 (toI (numb (body.drop 1))), .int .i64 0, .int .u32 0]

theorem Bytes.drop {w : World} {b off : Nat} {l : List UInt8} (h : Bytes w b off l) (k : Nat) : Bytes w b (off + k) (l.drop k) := by
  intro j hj
  have hj' : k + j < l.length := by simp at hj; omega
  have := h (k + j) hj'
  rw [Nat.add_assoc, this]
  simp
theorem Bytes.take {w : World} {b off : Nat} {l : List UInt8} (h : Bytes w b off l) (k : Nat) : Bytes w b off (l.take k) := by
  intro j hj
  have hj' : j < l.length := by simp at hj; omega
  rw [h j hj']
  simp

theorem Bytes.below {w w' : World} {b off B : Nat} {l : List UInt8} (h : Bytes w b off l) (hb : Below B w w') (hB : b < B) : Bytes w' b off l := fun j hj => by
  rw [hb.cell (by exact hB)]; exact h j hj
theorem Bytes.lt {w : World} {b off : Nat} {l : List UInt8} (h : Bytes w b off l) (hl : 0 < l.length) : b < w.heap.size := World.block_lt_of_cell? w ⟨b, off + 0, none⟩ (h 0 hl)
theorem Bytes.alloc {w : World} {b off : Nat} {l : List UInt8} (h : Bytes w b off l) (o : Obj) : Bytes (w.alloc o) b off l := by
  intro j hj
  have hlt : b < w.heap.size := h.lt (by omega)
  exact (Bytes.below h ((Below.refl _ w).alloc (Nat.le_refl _) o) hlt) j hj
theorem readLow_n (b off cap n : Nat) (l : List UInt8) (w : World) (hn : n = l.length) (hl : l.length ≤ 8) (hc : Bytes w b off l) :
    Calls Tryz.prog 39 #[.slice (some ⟨b, off, none⟩) n cap] w fun e w' => e = .returned (.int .u64 (numb l : Nat)) ∧ w' = w := by
  subst hn; exact readLow_any b off cap l w hl hc

set_option maxHeartbeats 800000 in
theorem markOf_any (b off cap : Nat) (body : List UInt8) (w : World) (hc : Bytes w b off body) (_hl : body.length ≤ 1000) (hcap : body.length < cap) :
    Calls Tryz.prog 66 #[.slice (some ⟨b, off, none⟩) body.length cap] w fun e w' =>
      e = .returned (.tuple #[if body.length = 9 then markVal body else itemNone, .bool (decide (body.length = 9))]) ∧ Below w.heap.size w w' := by
  by_cases h9 : body.length = 9
  · have hdl : Hid ((body.drop 1).length = 8) := by show _ = _; simp [h9]
    have hdb := (hc.drop 1).alloc
    have HM : Hid (markVal body = .agg #[.int .i64 2, .string ⟨#[]⟩, .int .i64 (wrap64 (numb (body.drop 1) : Nat)), .int .i64 0, .int .u32 0]) := rfl
    generalize body.drop 1 = d at *
    rw [if_pos h9, decide_eq_true h9]
    go_enter Tryz.func66, Tryz.ntmps66
    go_wp2_with fail
    refine (readLow_n b (off + 1) (cap - 1) 8 d _ hdl.out.symm (by rw [hdl.out]; omega) (hdb _)).mono ?_
    rintro e w' ⟨rfl, rfl⟩
    go_wp2
    exact bodyPost_ret (v := .tuple #[.agg #[.int .i64 2, .string ⟨#[]⟩, .int .i64 (wrap64 (numb d : Nat)), .int .i64 0, .int .u32 0], .bool true]) (by simp [results, Tryz.results66, go_sem]) rfl ⟨by rw [HM.out], (Below.refl _ _).alloc (Nat.le_refl _) _⟩
  · rw [if_neg h9, decide_eq_false h9]
    go_enter Tryz.func66, Tryz.ntmps66
    go_wp2
    exact bodyPost_ret (v := .tuple #[itemNone, .bool false]) (by simp [results, Tryz.results66, go_sem, itemNone]) rfl ⟨rfl, (Below.refl _ _).alloc (Nat.le_refl _) _⟩


/-- What eventOf asks of a body. -/
def isEvent (body : List UInt8) : Bool := decide (2 ≤ body.length) && (decide (1 ≤ (body.getD 1 0).toNat) && (decide ((body.getD 1 0).toNat ≤ 8) && decide (body.length = 22 + (body.getD 1 0).toNat)))
def eventVal (body : List UInt8) (k : Nat) : Value := .agg #[.int .i64 1, .string (str ((body.drop 2).take k)), .int .i64 (toI (numb ((body.drop (2 + k)).take 8))), .int .i64 (toI (numb ((body.drop (10 + k)).take 8))), .int .u32 (numb (body.drop (18 + k)) : Nat)]

theorem Bytes.at {w : World} {b off : Nat} {l : List UInt8} (h : Bytes w b off l) (j : Nat) (hj : j < l.length) : w.cell? ⟨b, off + j, none⟩ = some (.int .u8 ((l.getD j 0).toNat : Int)) := by
  rw [h j hj]; simp [List.getD, hj]

theorem readLow_at (b off off' n cap : Nat) (body : List UInt8) (w : World) (hc : Bytes w b off body) (h1 : off ≤ off') (h2 : off' - off + n ≤ body.length) (hn : n ≤ 8) :
    Calls Tryz.prog 39 #[.slice (some ⟨b, off', none⟩) n cap] w fun e w' => e = .returned (.int .u64 (numb ((body.drop (off' - off)).take n) : Nat)) ∧ w' = w := by
  have h := (hc.drop (off' - off)).take n
  rw [show off + (off' - off) = off' from by omega] at h
  exact readLow_n b off' cap n _ w (by simp; omega) (by simp; omega) h

theorem conv_at (b off off' n cap : Nat) (body : List UInt8) (w : World) (hc : Bytes w b off body) (h1 : off ≤ off') (h2 : off' - off + n ≤ body.length) :
    (convert 30 9 (.slice (some ⟨b, off', none⟩) n cap)).run Tryz.prog w = .ok (.string (str ((body.drop (off' - off)).take n))) w := by
  have h := (hc.drop (off' - off)).take n
  rw [show off + (off' - off) = off' from by omega] at h
  have hn : ((body.drop (off' - off)).take n).length = n := by simp; omega
  have := run_convert_bytes_back (P := Tryz.prog) w 30 9 5 ⟨b, off', none⟩ cap ((body.drop (off' - off)).take n) Tryz.underlying30 Tryz.underlying5 Tryz.underlying9 (fun j hj => by
    rw [Addr.add_lit]; exact h j hj)
  rw [hn] at this
  exact this

set_option maxRecDepth 20000 in
set_option maxHeartbeats 1600000 in
theorem eventOf_yes (b off cap : Nat) (body : List UInt8) (k : Nat) (w : World) (hc : Bytes w b off body) (h1 : 1 ≤ k) (h8 : k ≤ 8) (hl0 : body.length = 22 + k) (hk : (body.getD 1 0).toNat = k) (hcap : 22 + k < cap) :
    Calls Tryz.prog 65 #[.slice (some ⟨b, off, none⟩) (22 + k) cap] w fun e w' =>
      e = .returned (.tuple #[eventVal body k, .bool true]) ∧ Below w.heap.size w w' := by
  have hlt : b < w.heap.size := hc.lt (by omega)
  have hc1 : ∀ o, (w.alloc o).cell? ⟨b, off + 1, none⟩ = some (.int .u8 (k : Int)) := fun o => by
    rw [(hc.alloc o).at 1 (by omega), hk]
  have hl : Hid (body.length = 22 + k) := hl0
  clear hl0 hk
  have hne : ((22 : Int) + (k : Int) != 2 + (k : Int) + 20) = false := by simp; omega
  go_enter Tryz.func65, Tryz.ntmps65
  go_wp2_with fail
  go_quiet (fail)
  go_wp2_with fail
  rw [show 2 + k - 2 = k from by omega, show 22 + k - (2 + k) = 20 from by omega]
  have hby : Bytes ((w.alloc (.cells #[.int .i64 0, .string ⟨#[]⟩, .int .i64 0, .int .i64 0, .int .u32 0] 28)).drewN nq) b off body := by
    intro j hj; have := hc.alloc (.cells #[.int .i64 0, .string ⟨#[]⟩, .int .i64 0, .int .i64 0, .int .u32 0] 28) j hj; simpa using this
  have Hb : Hid (Below w.heap.size w ((w.alloc (.cells #[.int .i64 0, .string ⟨#[]⟩, .int .i64 0, .int .i64 0, .int .u32 0] 28)).drewN nq)) := by
    exact below_drewN ((Below.refl _ w).alloc (Nat.le_refl _) _) nq
  have c0 : ((w.alloc (.cells #[.int .i64 0, .string ⟨#[]⟩, .int .i64 0, .int .i64 0, .int .u32 0] 28)).drewN nq).cell? ⟨w.heap.size, 0, none⟩ = some (.int .i64 0) := by simp
  have c1 : ((w.alloc (.cells #[.int .i64 0, .string ⟨#[]⟩, .int .i64 0, .int .i64 0, .int .u32 0] 28)).drewN nq).cell? ⟨w.heap.size, 1, none⟩ = some (.string ⟨#[]⟩) := by simp
  have c2 : ((w.alloc (.cells #[.int .i64 0, .string ⟨#[]⟩, .int .i64 0, .int .i64 0, .int .u32 0] 28)).drewN nq).cell? ⟨w.heap.size, 2, none⟩ = some (.int .i64 0) := by simp
  have c3 : ((w.alloc (.cells #[.int .i64 0, .string ⟨#[]⟩, .int .i64 0, .int .i64 0, .int .u32 0] 28)).drewN nq).cell? ⟨w.heap.size, 3, none⟩ = some (.int .i64 0) := by simp
  have c4 : ((w.alloc (.cells #[.int .i64 0, .string ⟨#[]⟩, .int .i64 0, .int .i64 0, .int .u32 0] 28)).drewN nq).cell? ⟨w.heap.size, 4, none⟩ = some (.int .u32 0) := by simp
  have fz : ∀ j, ((w.alloc (.cells #[.int .i64 0, .string ⟨#[]⟩, .int .i64 0, .int .i64 0, .int .u32 0] 28)).drewN nq).frozen? ⟨w.heap.size, j, none⟩ = false := by intro j; simp
  generalize (w.alloc (.cells #[.int .i64 0, .string ⟨#[]⟩, .int .i64 0, .int .i64 0, .int .u32 0] 28)).drewN nq = W1 at *
  clear hc hc1 hne
  refine wp_region_still_tail 15 (by kernel_rfl) (by kernel_rfl) ?_
  simp only [List.take_succ_cons, List.take_zero, List.drop_succ_cons, List.drop_zero]
  change wpStill Tryz.prog _ W1.drew (fun a' => wpList Tryz.prog _ _ _ a' W1.drew) _ _
  have c0 : W1.drew.cell? ⟨w.heap.size, 0, none⟩ = some (.int .i64 0) := c0
  have c1 : W1.drew.cell? ⟨w.heap.size, 1, none⟩ = some (.string ⟨#[]⟩) := c1
  have c2 : W1.drew.cell? ⟨w.heap.size, 2, none⟩ = some (.int .i64 0) := c2
  have c3 : W1.drew.cell? ⟨w.heap.size, 3, none⟩ = some (.int .i64 0) := c3
  have c4 : W1.drew.cell? ⟨w.heap.size, 4, none⟩ = some (.int .u32 0) := c4
  have fz : ∀ j, W1.drew.frozen? ⟨w.heap.size, j, none⟩ = false := fz
  have hby : Bytes W1.drew b off body := hby
  have Hb : Hid (Below w.heap.size w W1.drew) := Below.drew Hb.out
  generalize W1.drew = W2 at *
  have hcv := conv_at b off (off + 2) k (cap - 2) body W2 hby (by omega) (by rw [hl.out]; omega)
  have hl22 := hl.out
  have hcc : 20 < cap - (2 + k) := by omega
  generalize cap - (2 + k) = cc at *
  have b1 : (8 : Int) ≤ (cc : Int) := by omega
  have b2 : (16 : Int) ≤ (cc : Int) := by omega
  have b3 : ¬ cc = 16 := by omega
  have b4 : ¬ cc = 8 := by omega
  have q1 := fun cap' => readLow_at b off (off + (2 + k)) 8 cap' body W2 hby (by omega) (by omega) (by omega)
  have q2 := fun cap' => readLow_at b off (off + (2 + k) + 8) 8 cap' body W2 hby (by omega) (by omega) (by omega)
  have q3 := fun cap' => readLow_at b off (off + (2 + k) + 16) 4 cap' body W2 hby (by omega) (by omega) (by omega)
  have hA3 : numb ((body.drop (off + (2 + k) + 16 - off)).take 4) < 4294967296 := by
    have h := numb_lt ((body.drop (off + (2 + k) + 16 - off)).take 4)
    have h2 : 256 ^ ((body.drop (off + (2 + k) + 16 - off)).take 4).length ≤ 256 ^ 4 := Nat.pow_le_pow_right (by decide) (by simp; omega)
    omega
  have HE : Hid (eventVal body k = .agg #[.int .i64 1, .string (str ((body.drop (off + 2 - off)).take k)), .int .i64 (toI (numb ((body.drop (off + (2 + k) - off)).take 8))), .int .i64 (toI (numb ((body.drop (off + (2 + k) + 8 - off)).take 8))), .int .u32 (numb ((body.drop (off + (2 + k) + 16 - off)).take 4) : Nat)]) := by
    show eventVal body k = _
    have t4 : (body.drop (18 + k)).take 4 = body.drop (18 + k) := List.take_of_length_le (by simp; omega)
    rw [eventVal, show off + 2 - off = 2 from by omega, show off + (2 + k) - off = 2 + k from by omega, show off + (2 + k) + 8 - off = 10 + k from by omega, show off + (2 + k) + 16 - off = 18 + k from by omega, t4]
  generalize numb ((body.drop (off + (2 + k) - off)).take 8) = A1 at *
  generalize numb ((body.drop (off + (2 + k) + 8 - off)).take 8) = A2 at *
  generalize numb ((body.drop (off + (2 + k) + 16 - off)).take 4) = A3 at *
  generalize str ((body.drop (off + 2 - off)).take k) = S at *
  have hw3 : IntKind.u32.wrap (A3 : Int) = A3 := by rw [IntKind.wrap_u32]; omega
  have hw1 : IntKind.i64.wrap (A1 : Int) = toI A1 := IntWalk.i64_left _
  have hw2 : IntKind.i64.wrap (A2 : Int) = toI A2 := IntWalk.i64_left _
  generalize toI A1 = T1 at *
  generalize toI A2 = T2 at *
  have Hq1 : Hid _ := q1
  have Hq2 : Hid _ := q2
  have Hq3 : Hid _ := q3
  clear hl22 q1 q2 q3 hA3 hby hl
  repeat still_step
  still_call (Hq1.out _)
  repeat still_step
  still_call (Hq2.out _)
  repeat still_step
  still_call (Hq3.out _)
  repeat still_step
  try refine wpStill_nil ?_
  go_wp2
  refine bodyPost_ret (v := .tuple #[.agg #[.int .i64 1, .string S, .int .i64 T1, .int .i64 T2, .int .u32 (A3 : Nat)], .bool true]) ?_ rfl ⟨by rw [HE.out], ?_⟩
  · simp [results, Tryz.results65, go_sem, c0, c1, c2, c3, c4]
  · exact ((((Hb.out.setCell (Nat.le_refl _) _).setCell (Nat.le_refl _) _).setCell (Nat.le_refl _) _).setCell (Nat.le_refl _) _).setCell (Nat.le_refl _) _


theorem isEvent_true {body : List UInt8} (h : isEvent body = true) : 1 ≤ (body.getD 1 0).toNat ∧ (body.getD 1 0).toNat ≤ 8 ∧ body.length = 22 + (body.getD 1 0).toNat := by
  simp only [isEvent, Bool.and_eq_true, decide_eq_true_eq] at h
  exact ⟨h.2.1, h.2.2.1, h.2.2.2⟩

set_option maxHeartbeats 1600000 in
theorem eventOf_no (b off cap : Nat) (body : List UInt8) (w : World) (hc : Bytes w b off body) (hl : body.length ≤ 1000) (he : isEvent body = false) :
    Calls Tryz.prog 65 #[.slice (some ⟨b, off, none⟩) body.length cap] w fun e w' =>
      e = .returned (.tuple #[itemNone, .bool false]) ∧ Below w.heap.size w w' := by
  by_cases h2 : 2 ≤ body.length
  · have hlt : b < w.heap.size := hc.lt (by omega)
    have hc1 : ∀ o, (w.alloc o).cell? ⟨b, off + 1, none⟩ = some (.int .u8 ((body.getD 1 0).toNat : Int)) := fun o => (hc.alloc o).at 1 (by omega)
    have hkl := (body.getD 1 0).toNat_lt
    have HE : Hid (1 ≤ (body.getD 1 0).toNat → (body.getD 1 0).toNat ≤ 8 → body.length ≠ 22 + (body.getD 1 0).toNat) := by
      intro q1 q2 q3
      simp [isEvent, h2] at he
      exact he (by simpa using q1) (by simpa using q2) (by simpa using q3)
    generalize (body.getD 1 0).toNat = k at *
    generalize hn : body.length = n at *
    clear hn he
    by_cases h1 : 1 ≤ k
    · by_cases h8 : k ≤ 8
      · have hne := HE.out h1 h8
        have hne' : ((n : Int) != 2 + (k : Int) + 20) = true := by simp; omega
        clear hne
        go_enter Tryz.func65, Tryz.ntmps65
        go_wp2
        exact bodyPost_ret (v := .tuple #[itemNone, .bool false]) (by simp [results, Tryz.results65, go_sem, itemNone]) rfl ⟨rfl, (Below.refl _ _).alloc (Nat.le_refl _) _⟩
      · go_enter Tryz.func65, Tryz.ntmps65
        go_wp2
        exact bodyPost_ret (v := .tuple #[itemNone, .bool false]) (by simp [results, Tryz.results65, go_sem, itemNone]) rfl ⟨rfl, (Below.refl _ _).alloc (Nat.le_refl _) _⟩
    · go_enter Tryz.func65, Tryz.ntmps65
      go_wp2
      exact bodyPost_ret (v := .tuple #[itemNone, .bool false]) (by simp [results, Tryz.results65, go_sem, itemNone]) rfl ⟨rfl, (Below.refl _ _).alloc (Nat.le_refl _) _⟩
  · go_enter Tryz.func65, Tryz.ntmps65
    go_wp2
    exact bodyPost_ret (v := .tuple #[itemNone, .bool false]) (by simp [results, Tryz.results65, go_sem, itemNone]) rfl ⟨rfl, (Below.refl _ _).alloc (Nat.le_refl _) _⟩

end Go.Proofs.YtcfngdnmpogaoaaGreat

namespace Go.Proofs.YtcfngdnmpogaoaaGreat
open Go.RowKit

/-- What a body is the item of. -/
def itemOfB (body : List UInt8) : Bool := if body.getD 0 0 = 1 then isEvent body else if body.getD 0 0 = 2 then decide (body.length = 9) else false
def itemOfV (body : List UInt8) : Value := if itemOfB body then (if body.getD 0 0 = 1 then eventVal body (body.getD 1 0).toNat else markVal body) else itemNone

theorem isEvent_len {body : List UInt8} (h : isEvent body = true) : 2 ≤ body.length := by have := isEvent_true h; omega

def evV (body : List UInt8) : Value := if isEvent body then eventVal body (body.getD 1 0).toNat else itemNone
def mkV (body : List UInt8) : Value := if body.length = 9 then markVal body else itemNone
def mkB (body : List UInt8) : Bool := decide (body.length = 9)

/-- The cells of an item. -/
def itemCells (v : Value) : Prop := ∃ a b c d e, v = .agg #[.int .i64 a, .string b, .int .i64 c, .int .i64 d, .int .u32 e]
theorem itemNone_cells : itemCells itemNone := ⟨_, _, _, _, _, rfl⟩
theorem markVal_cells (l : List UInt8) : itemCells (markVal l) := ⟨_, _, _, _, _, rfl⟩
theorem eventVal_cells (l : List UInt8) (k : Nat) : itemCells (eventVal l k) := ⟨_, _, _, _, _, rfl⟩

theorem eventOf_any (b off cap : Nat) (body : List UInt8) (w : World) (hc : Bytes w b off body) (hl : body.length ≤ 1000) (hcap : body.length < cap) :
    Calls Tryz.prog 65 #[.slice (some ⟨b, off, none⟩) body.length cap] w fun e w' =>
      (∃ v, itemCells v ∧ v = evV body ∧ e = .returned (.tuple #[v, .bool (isEvent body)])) ∧ Below w.heap.size w w' := by
  cases he : isEvent body with
  | false => exact (eventOf_no b off cap body w hc hl he).mono fun e w' ⟨h1, h2⟩ => ⟨⟨_, itemNone_cells, by rw [evV, he]; rfl, h1⟩, h2⟩
  | true =>
    obtain ⟨h1, h8, hl'⟩ := isEvent_true he
    have h := eventOf_yes b off cap body (body.getD 1 0).toNat w hc h1 h8 hl' rfl (by omega)
    rw [← hl'] at h
    exact h.mono fun e w' ⟨h1, h2⟩ => ⟨⟨_, eventVal_cells _ _, by rw [evV, he]; rfl, h1⟩, h2⟩

theorem toNat_eq (x : UInt8) (n : Nat) (h : n < 256) : ((x.toNat : Int) == (n : Int)) = decide (x = UInt8.ofNat n) := by
  rw [Bool.eq_iff_iff]
  simp only [beq_iff_eq, decide_eq_true_eq]
  constructor
  · intro h'
    apply UInt8.toNat_inj.1
    simp [UInt8.toNat_ofNat']; omega
  · intro h'
    subst h'
    simp [UInt8.toNat_ofNat']; omega

theorem item_box {w w' : World} {x0 x1 x2 x3 x4 : Value} {t : TypeId} {B : Nat} (hb : Below B (w.alloc (.cells #[x0, x1, x2, x3, x4] t)) w') (hB : w.heap.size < B) :
    w'.cell? ⟨w.heap.size, 0, none⟩ = some x0 ∧ w'.cell? ⟨w.heap.size, 1, none⟩ = some x1 ∧ w'.cell? ⟨w.heap.size, 2, none⟩ = some x2 ∧ w'.cell? ⟨w.heap.size, 3, none⟩ = some x3 ∧ w'.cell? ⟨w.heap.size, 4, none⟩ = some x4 ∧
    (∀ j, w'.frozen? ⟨w.heap.size, j, none⟩ = false) ∧ w.heap.size < w'.heap.size ∧ Below w.heap.size w w' := by
  have hs := hb.size
  refine ⟨?_, ?_, ?_, ?_, ?_, fun j => ?_, ?_, ((Below.refl _ w).alloc (Nat.le_refl _) _).trans (hb.mono (by omega))⟩
  · rw [hb.cell (by exact hB)]; simp
  · rw [hb.cell (by exact hB)]; simp
  · rw [hb.cell (by exact hB)]; simp
  · rw [hb.cell (by exact hB)]; simp
  · rw [hb.cell (by exact hB)]; simp
  · rw [hb.frozen (by exact hB)]; simp
  · simp at hs; omega

theorem item_put {w w' : World} {x0 x1 x2 x3 x4 : Value} (hb : Below w.heap.size w w') : Below w.heap.size w (((((w'.setCell ⟨w.heap.size, 0, none⟩ x0).setCell ⟨w.heap.size, 1, none⟩ x1).setCell ⟨w.heap.size, 2, none⟩ x2).setCell ⟨w.heap.size, 3, none⟩ x3).setCell ⟨w.heap.size, 4, none⟩ x4) :=
  ((((hb.setCell (Nat.le_refl _) _).setCell (Nat.le_refl _) _).setCell (Nat.le_refl _) _).setCell (Nat.le_refl _) _).setCell (Nat.le_refl _) _

set_option maxHeartbeats 1600000 in
theorem itemOf_event (b off cap : Nat) (body : List UInt8) (w : World) (hc : Bytes w b off body) (hl : body.length ≤ 1000) (hcap : body.length < cap) (h0 : 0 < body.length) (h1 : body.getD 0 0 = 1) :
    Calls Tryz.prog 40 #[.slice (some ⟨b, off, none⟩) body.length cap] w fun e w' =>
      (∃ v, itemCells v ∧ v = evV body ∧ e = .returned (.tuple #[v, .bool (isEvent body)])) ∧ Below w.heap.size w w' := by
  have hlt : b < w.heap.size := hc.lt h0
  have hc0 : ∀ o, (w.alloc o).cell? ⟨b, off, none⟩ = some (.int .u8 1) := fun o => by
    have := (hc.alloc o).at 0 h0
    rw [h1] at this; exact this
  have hca := hc.alloc
  have Hca : Hid (∀ o, Bytes (w.alloc o) b off body) := hca
  clear hca h1
  go_enter Tryz.func40, Tryz.ntmps40
  go_wp2_with fail
  refine (eventOf_any b off cap body _ (Hca.out _) hl hcap).mono ?_
  rintro e w' ⟨⟨v, ⟨x1, x2, x3, x4, x5, rfl⟩, hv, rfl⟩, hb⟩
  have Hv : Hid _ := hv
  clear hv
  obtain ⟨c0, c1, c2, c3, c4, fz, hs, hbw⟩ := item_box hb (by simp)
  clear hb
  go_wp2
  refine bodyPost_ret (v := .tuple #[.agg #[.int .i64 x1, .string x2, .int .i64 x3, .int .i64 x4, .int .u32 x5], .bool (isEvent body)]) ?_ rfl ⟨⟨_, ⟨_, _, _, _, _, rfl⟩, Hv.out, rfl⟩, item_put hbw⟩
  simp [results, Tryz.results40, go_sem, c0, c1, c2, c3, c4]

set_option maxHeartbeats 1600000 in
theorem itemOf_mark (b off cap : Nat) (body : List UInt8) (w : World) (hc : Bytes w b off body) (hl : body.length ≤ 1000) (hcap : body.length < cap) (h0 : 0 < body.length) (h1 : body.getD 0 0 = 2) :
    Calls Tryz.prog 40 #[.slice (some ⟨b, off, none⟩) body.length cap] w fun e w' =>
      (∃ v, itemCells v ∧ v = mkV body ∧ e = .returned (.tuple #[v, .bool (mkB body)])) ∧ Below w.heap.size w w' := by
  have hlt : b < w.heap.size := hc.lt h0
  have hc0 : ∀ o, (w.alloc o).cell? ⟨b, off, none⟩ = some (.int .u8 2) := fun o => by
    have := (hc.alloc o).at 0 h0
    rw [h1] at this; exact this
  have hca := hc.alloc
  have Hca : Hid (∀ o, Bytes (w.alloc o) b off body) := hca
  clear hca h1
  have HM : Hid ((if body.length = 9 then markVal body else itemNone) = mkV body) := rfl
  have HB : Hid (decide (body.length = 9) = mkB body) := rfl
  have hvv : itemCells (mkV body) := by
    unfold mkV
    split
    · exact markVal_cells _
    · exact itemNone_cells
  go_enter Tryz.func40, Tryz.ntmps40
  go_wp2_with fail
  refine (markOf_any b off cap body _ (Hca.out _) hl hcap).mono ?_
  rintro e w' ⟨rfl, hb⟩
  rw [HM.out, HB.out]
  obtain ⟨x1, x2, x3, x4, x5, hv⟩ := hvv
  rw [hv]
  clear HM HB
  have Hv : Hid _ := hv
  clear hv
  obtain ⟨c0, c1, c2, c3, c4, fz, hs, hbw⟩ := item_box hb (by simp)
  clear hb
  go_wp2
  refine bodyPost_ret (v := .tuple #[.agg #[.int .i64 x1, .string x2, .int .i64 x3, .int .i64 x4, .int .u32 x5], .bool (mkB body)]) ?_ rfl ⟨⟨_, ⟨_, _, _, _, _, rfl⟩, Hv.out.symm, rfl⟩, item_put hbw⟩
  simp [results, Tryz.results40, go_sem, c0, c1, c2, c3, c4]

set_option maxHeartbeats 1600000 in
theorem itemOf_other (b off cap : Nat) (body : List UInt8) (w : World) (hc : Bytes w b off body) (hl : body.length ≤ 1000) (h0 : 0 < body.length) (h1 : ¬ body.getD 0 0 = 1) (h2 : ¬ body.getD 0 0 = 2) :
    Calls Tryz.prog 40 #[.slice (some ⟨b, off, none⟩) body.length cap] w fun e w' =>
      e = .returned (.tuple #[itemNone, .bool false]) ∧ Below w.heap.size w w' := by
  have hlt : b < w.heap.size := hc.lt h0
  have hc0 : ∀ o, (w.alloc o).cell? ⟨b, off, none⟩ = some (.int .u8 ((body.getD 0 0).toNat : Int)) := fun o => (hc.alloc o).at 0 h0
  have e1 : (((body.getD 0 0).toNat : Int) == 1) = false := by rw [show (1 : Int) = ((1 : Nat) : Int) from rfl, toNat_eq _ 1 (by omega)]; exact decide_eq_false h1
  have e2 : (((body.getD 0 0).toNat : Int) == 2) = false := by rw [show (2 : Int) = ((2 : Nat) : Int) from rfl, toNat_eq _ 2 (by omega)]; exact decide_eq_false h2
  clear h1 h2
  generalize (body.getD 0 0).toNat = k at *
  go_enter Tryz.func40, Tryz.ntmps40
  go_wp2
  exact bodyPost_ret (v := .tuple #[itemNone, .bool false]) (by simp [results, Tryz.results40, go_sem, itemNone]) rfl ⟨rfl, (Below.refl _ _).alloc (Nat.le_refl _) _⟩

set_option maxHeartbeats 1600000 in
theorem itemOf_empty (b off cap : Nat) (w : World) :
    Calls Tryz.prog 40 #[.slice (some ⟨b, off, none⟩) 0 cap] w fun e w' =>
      e = .returned (.tuple #[itemNone, .bool false]) ∧ Below w.heap.size w w' := by
  go_enter Tryz.func40, Tryz.ntmps40
  go_wp2
  exact bodyPost_ret (v := .tuple #[itemNone, .bool false]) (by simp [results, Tryz.results40, go_sem, itemNone]) rfl ⟨rfl, (Below.refl _ _).alloc (Nat.le_refl _) _⟩

theorem itemOf_any (b off cap : Nat) (body : List UInt8) (w : World) (hc : Bytes w b off body) (hl : body.length ≤ 1000) (hcap : body.length < cap) :
    Calls Tryz.prog 40 #[.slice (some ⟨b, off, none⟩) body.length cap] w fun e w' =>
      itemCells (itemOfV body) ∧ e = .returned (.tuple #[itemOfV body, .bool (itemOfB body)]) ∧ Below w.heap.size w w' := by
  by_cases h0 : 0 < body.length
  · by_cases h1 : body.getD 0 0 = 1
    · refine (itemOf_event b off cap body w hc hl hcap h0 h1).mono ?_
      rintro e w' ⟨⟨v, hv, hv2, rfl⟩, hb⟩
      have e1 : itemOfB body = isEvent body := by rw [itemOfB, if_pos h1]
      have e2 : itemOfV body = v := by rw [itemOfV, e1, hv2, if_pos h1]; rfl
      rw [e1, e2]
      exact ⟨hv, rfl, hb⟩
    · by_cases h2 : body.getD 0 0 = 2
      · refine (itemOf_mark b off cap body w hc hl hcap h0 h2).mono ?_
        rintro e w' ⟨⟨v, hv, hv2, rfl⟩, hb⟩
        have e1 : itemOfB body = mkB body := by rw [itemOfB, if_neg h1, if_pos h2]; rfl
        have e2 : itemOfV body = v := by rw [itemOfV, e1, hv2, if_neg h1]; simp [mkB, mkV]
        rw [e1, e2]
        exact ⟨hv, rfl, hb⟩
      · refine (itemOf_other b off cap body w hc hl h0 h1 h2).mono ?_
        rintro e w' ⟨rfl, hb⟩
        have e1 : itemOfB body = false := by rw [itemOfB, if_neg h1, if_neg h2]
        have e2 : itemOfV body = itemNone := by rw [itemOfV, e1]; simp
        rw [e1, e2]
        exact ⟨itemNone_cells, rfl, hb⟩
  · have hb0 : body = [] := List.eq_nil_of_length_eq_zero (by omega)
    subst hb0
    refine (itemOf_empty b off cap w).mono ?_
    rintro e w' ⟨rfl, hb⟩
    exact ⟨itemNone_cells, rfl, hb⟩

end Go.Proofs.YtcfngdnmpogaoaaGreat

namespace Go.Proofs.YtcfngdnmpogaoaaGreat
open Go.RowKit

def unfShort (l : List UInt8) : Bool := decide (l.length < (l.getD 0 0).toNat + 3)
def unfBody (l : List UInt8) : List UInt8 := (l.drop 1).take (l.getD 0 0).toNat
def unfCrc (l : List UInt8) : Bool := decide (numb ((l.drop (1 + (l.getD 0 0).toNat)).take 2) = crc (unfBody l))

set_option maxHeartbeats 1600000 in
theorem unframe_empty (a : Option Addr) (cap : Nat) (w : World) :
    Calls Tryz.prog 16 #[.slice a 0 cap] w fun e w' => e = .returned (.tuple #[itemNone, .int .i64 0, .int .i64 0]) ∧ Below w.heap.size w w' := by
  go_enter Tryz.func16, Tryz.ntmps16
  go_wp2
  exact bodyPost_ret (v := .tuple #[itemNone, .int .i64 0, .int .i64 0]) (by simp [results, Tryz.results16, go_sem, itemNone]) rfl ⟨rfl, (Below.refl _ _).alloc (Nat.le_refl _) _⟩

set_option maxHeartbeats 1600000 in
theorem unframe_short (b off cap : Nat) (l : List UInt8) (w : World) (hc : Bytes w b off l) (h0 : 0 < l.length) (hl : l.length ≤ 9223372036854775807) (hs : l.length < (l.getD 0 0).toNat + 3) :
    Calls Tryz.prog 16 #[.slice (some ⟨b, off, none⟩) l.length cap] w fun e w' => e = .returned (.tuple #[itemNone, .int .i64 0, .int .i64 0]) ∧ Below w.heap.size w w' := by
  have hlt : b < w.heap.size := hc.lt h0
  have hc0 : ∀ o, (w.alloc o).cell? ⟨b, off, none⟩ = some (.int .u8 ((l.getD 0 0).toNat : Int)) := fun o => (hc.alloc o).at 0 h0
  have hk := (l.getD 0 0).toNat_lt
  generalize (l.getD 0 0).toNat = k at *
  go_enter Tryz.func16, Tryz.ntmps16
  go_wp2
  exact bodyPost_ret (v := .tuple #[itemNone, .int .i64 0, .int .i64 0]) (by simp [results, Tryz.results16, go_sem, itemNone]) rfl ⟨rfl, (Below.refl _ _).alloc (Nat.le_refl _) _⟩

theorem check_n (b off cap n : Nat) (l : List UInt8) (w : World) (hn : n = l.length) (hl : l.length ≤ 9223372036854775807) (hc : Bytes w b off l) :
    Calls Tryz.prog 38 #[.slice (some ⟨b, off, none⟩) n cap] w fun e w' => e = .returned (.int .u16 (crc l : Nat)) ∧ w' = w := by
  subst hn; exact check_any b off cap l w hl hc
theorem itemOf_n (b off cap n : Nat) (body : List UInt8) (w : World) (hn : n = body.length) (hc : Bytes w b off body) (hl : body.length ≤ 1000) (hcap : body.length < cap) :
    Calls Tryz.prog 40 #[.slice (some ⟨b, off, none⟩) n cap] w fun e w' =>
      itemCells (itemOfV body) ∧ e = .returned (.tuple #[itemOfV body, .bool (itemOfB body)]) ∧ Below w.heap.size w w' := by
  subst hn; exact itemOf_any b off cap body w hc hl hcap

def unfOk (l : List UInt8) : Bool := unfCrc l && itemOfB (unfBody l)

set_option maxHeartbeats 1600000 in
theorem unframe_long (b off cap : Nat) (l : List UInt8) (w : World) (hc : Bytes w b off l) (h0 : 0 < l.length) (hl : l.length ≤ 9223372036854775807) (hcap : l.length ≤ cap) (hs : (l.getD 0 0).toNat + 3 ≤ l.length) :
    Calls Tryz.prog 16 #[.slice (some ⟨b, off, none⟩) l.length cap] w fun e w' =>
      (unfOk l = true → itemCells (itemOfV (unfBody l)) ∧ e = .returned (.tuple #[itemOfV (unfBody l), .int .i64 ((l.getD 0 0).toNat + 3 : Nat), .int .i64 0])) ∧
      (unfOk l = false → e = .returned (.tuple #[itemNone, .int .i64 0, .int .i64 2])) ∧ Below w.heap.size w w' := by
  have hlt : b < w.heap.size := hc.lt h0
  have hc0 : ∀ o, (w.alloc o).cell? ⟨b, off, none⟩ = some (.int .u8 ((l.getD 0 0).toNat : Int)) := fun o => (hc.alloc o).at 0 h0
  have hk := (l.getD 0 0).toNat_lt
  have hbl : (unfBody l).length = (l.getD 0 0).toNat := by rw [unfBody, List.length_take, List.length_drop]; omega
  have hbB : Hid (∀ o, Bytes (w.alloc o) b (off + 1) (unfBody l)) := fun o => ((hc.alloc o).drop 1).take _
  have hq : Hid (∀ o cap', Calls Tryz.prog 39 #[.slice (some ⟨b, off + (1 + (l.getD 0 0).toNat), none⟩) 2 cap'] (w.alloc o) fun e w' => e = .returned (.int .u64 (numb ((l.drop (1 + (l.getD 0 0).toNat)).take 2) : Nat)) ∧ w' = w.alloc o) := fun o cap' => by
    have := readLow_at b off (off + (1 + (l.getD 0 0).toNat)) 2 cap' l (w.alloc o) (hc.alloc o) (by omega) (by omega) (by omega)
    rw [Nat.add_sub_cancel_left] at this
    exact this
  have HK : Hid (unfCrc l = decide (numb ((l.drop (1 + (l.getD 0 0).toNat)).take 2) = crc (unfBody l))) := rfl
  have HO : Hid (unfOk l = (unfCrc l && itemOfB (unfBody l))) := rfl
  have hC := crc_lt (unfBody l)
  generalize (l.getD 0 0).toNat = k at *
  generalize unfBody l = body at *
  generalize numb ((l.drop (1 + k)).take 2) = X at *
  go_enter Tryz.func16, Tryz.ntmps16
  go_wp2_with fail
  refine (hq.out _ _).mono ?_
  rintro e w1 ⟨rfl, rfl⟩
  go_wp2_with fail
  refine (check_n b (off + 1) (cap - 1) k body _ hbl.symm (by omega) (hbB.out _)).mono ?_
  rintro e w1 ⟨rfl, rfl⟩
  generalize crc body = C at *
  cases hcr : unfCrc l with
  | false =>
    have hxc : ((X : Int) != (C : Int)) = true := by
      have := HK.out; rw [hcr] at this
      have := of_decide_eq_false this.symm
      simp; omega
    have hok : Hid (unfOk l = false) := by show _ = _; rw [HO.out, hcr]; rfl
    clear HK HO hcr
    go_wp2
    refine bodyPost_ret (v := .tuple #[itemNone, .int .i64 0, .int .i64 2]) (by simp [results, Tryz.results16, go_sem, itemNone]) rfl ⟨fun h => ?_, fun _ => rfl, (Below.refl _ _).alloc (Nat.le_refl _) _⟩
    rw [hok.out] at h; cases h
  | true =>
    have hxc : ((X : Int) != (C : Int)) = false := by
      have := HK.out; rw [hcr] at this
      have := of_decide_eq_true this.symm
      simp; omega
    have HO' : Hid (unfOk l = itemOfB body) := by show _ = _; rw [HO.out, hcr]; rfl
    clear HK HO hcr
    go_wp2_with fail
    refine (itemOf_n b (off + 1) (cap - 1) k body _ hbl.symm (hbB.out _) (by omega) (by omega)).mono ?_
    rintro e w2 ⟨⟨x1, x2, x3, x4, x5, hv⟩, rfl, hb⟩
    rw [hv]
    have Hv : Hid (itemOfV body = .agg #[.int .i64 x1, .string x2, .int .i64 x3, .int .i64 x4, .int .u32 x5]) := hv
    clear hv
    obtain ⟨c0, c1, c2, c3, c4, fz, hs2, hbw⟩ := item_box hb (by simp)
    clear hb
    cases hib : itemOfB body with
    | false =>
      have hok : Hid (unfOk l = false) := by show _ = _; rw [HO'.out, hib]
      clear hib HO'
      go_wp2
      refine bodyPost_ret (v := .tuple #[itemNone, .int .i64 0, .int .i64 2]) (by simp [results, Tryz.results16, go_sem, itemNone, c0, c1, c2, c3, c4, hs2]) rfl ⟨fun h => ?_, fun _ => rfl, (item_put hbw).alloc (by simp; omega) _⟩
      rw [hok.out] at h; cases h
    | true =>
      have hok : Hid (unfOk l = true) := by show _ = _; rw [HO'.out, hib]
      clear hib HO'
      have hk3 : Hid ((1 : Int) + (k : Int) + 2 = ((k + 3 : Nat) : Int)) := by show _ = _; omega
      go_wp2
      refine bodyPost_ret (v := .tuple #[.agg #[.int .i64 x1, .string x2, .int .i64 x3, .int .i64 x4, .int .u32 x5], .int .i64 ((1 : Int) + (k : Int) + 2), .int .i64 0]) (by simp [results, Tryz.results16, go_sem, c0, c1, c2, c3, c4, hs2]) rfl ⟨fun _ => ⟨⟨_, _, _, _, _, Hv.out⟩, by rw [Hv.out, hk3.out]⟩, fun h => ?_, (item_put hbw).alloc (by simp; omega) _⟩
      rw [hok.out] at h; cases h

end Go.Proofs.YtcfngdnmpogaoaaGreat
