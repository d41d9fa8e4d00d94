import Derived.Test.YtcfngdnmpogaoaaGreatLinesUptoT06
import Derived.Test.YtcfngdnmpogaoaaGreatLinesUptoT04
import Derived.Test.YtcfngdnmpogaoaaGreatLinesUptoT01

/- What is framed is read as what it was; of fewer bytes there is none yet; with a bit turned there is none. Lists of bytes alone. -/
namespace Go.Proofs.YtcfngdnmpogaoaaGreat
open Go.RowKit

theorem crcBit_top (c : Nat) (h : c < 65536) : 32768 ≤ crcBit c ↔ c % 2 = 1 := by
  unfold crcBit
  split
  · rename_i ho
    constructor
    · intro _; exact ho
    · intro _
      have h1 : (c / 2 ^^^ 40961).testBit 15 = true := by
        rw [Nat.testBit_xor, Nat.testBit_lt_two_pow (show c / 2 < 2 ^ 15 by omega)]
        decide
      exact Nat.ge_two_pow_of_testBit h1
  · omega

theorem crcBit_inj (a b : Nat) (ha : a < 65536) (hb : b < 65536) (h : crcBit a = crcBit b) : a = b := by
  have ta := crcBit_top a ha
  have tb := crcBit_top b hb
  rw [h] at ta
  have hp : a % 2 = b % 2 := by omega
  unfold crcBit at h
  by_cases ho : a % 2 = 1
  · rw [if_pos ho, if_pos (by omega)] at h
    have : a / 2 = b / 2 := by
      have := congrArg (· ^^^ 40961) h
      simpa [Nat.xor_assoc] using this
    omega
  · rw [if_neg ho, if_neg (by omega)] at h
    omega

theorem crcN_inj (n a b : Nat) (ha : a < 65536) (hb : b < 65536) (h : crcN n a = crcN n b) : a = b := by
  induction n with
  | zero => exact h
  | succ n ih => exact ih (crcBit_inj _ _ (crcN_lt _ _ ha) (crcN_lt _ _ hb) h)

theorem xor_left_inj (a b x : Nat) (h : a ^^^ x = b ^^^ x) : a = b := by
  have := congrArg (· ^^^ x) h
  simpa [Nat.xor_assoc] using this

theorem crcFrom_inj (l : List UInt8) (a b : Nat) (ha : a < 65536) (hb : b < 65536) (h : crcFrom a l = crcFrom b l) : a = b := by
  induction l generalizing a b with
  | nil => exact h
  | cons x l ih =>
    have := ih _ _ (crcN_lt 8 _ (xor_byte_lt a x ha)) (crcN_lt 8 _ (xor_byte_lt b x hb)) h
    exact xor_left_inj _ _ x.toNat (crcN_inj 8 _ _ (xor_byte_lt a x ha) (xor_byte_lt b x hb) this)

theorem crcFrom_app (l m : List UInt8) (c : Nat) : crcFrom c (l ++ m) = crcFrom (crcFrom c l) m := by
  induction l generalizing c with
  | nil => rfl
  | cons x l ih => exact ih _

/-- One byte turned: another check. -/
theorem crc_set_ne (l : List UInt8) (j : Nat) (hj : j < l.length) (y : UInt8) (hy : y ≠ l[j]) : crc (l.set j y) ≠ crc l := by
  intro h
  have e1 : l.set j y = l.take j ++ (y :: l.drop (j + 1)) := by rw [List.set_eq_take_append_cons_drop, if_pos hj]
  have e2 : l = l.take j ++ (l[j] :: l.drop (j + 1)) := by rw [← List.drop_eq_getElem_cons hj, List.take_append_drop]
  unfold crc at h
  rw [e1] at h
  conv at h => rhs; rw [e2]
  rw [crcFrom_app, crcFrom_app] at h
  have hc := crcFrom_lt (l.take j) 65535 (by decide)
  have := crcFrom_inj _ _ _ (crcN_lt 8 _ (xor_byte_lt _ y hc)) (crcN_lt 8 _ (xor_byte_lt _ l[j] hc)) h
  have := crcN_inj 8 _ _ (xor_byte_lt _ y hc) (xor_byte_lt _ l[j] hc) this
  rw [Nat.xor_comm _ y.toNat, Nat.xor_comm _ l[j].toNat] at this
  exact hy (UInt8.toNat_inj.1 (xor_left_inj _ _ _ this))

theorem numb_inj (a b : List UInt8) (hl : a.length = b.length) (h : numb a = numb b) : a = b := by
  rw [← low_numb a, ← low_numb b, h, hl]

theorem toI_toU (x : Int) (h1 : -9223372036854775808 ≤ x) (h2 : x < 9223372036854775808) : toI (toU x) = x := by
  unfold toI
  rw [← toU_eq, IntKind.wrap_u64]
  unfold wrap64
  omega

theorem frame_len {kind : Int} {key : ByteArray} {time value : Int} {tag : Nat} (_h : isItemB kind key value tag = true) :
    (frameBytes kind key time value tag).length = (itemBody kind key time value tag).length + 3 := by
  simp [frameBytes, low_length]

theorem frame_head {kind : Int} {key : ByteArray} {time value : Int} {tag : Nat} (h : isItemB kind key value tag = true) (more : List UInt8) :
    ((frameBytes kind key time value tag ++ more).getD 0 0).toNat = (itemBody kind key time value tag).length := by
  have := itemBody_len (time := time) h
  simp [frameBytes, UInt8.toNat_ofNat']
  omega

theorem frame_body {kind : Int} {key : ByteArray} {time value : Int} {tag : Nat} (h : isItemB kind key value tag = true) (more : List UInt8) :
    unfBody (frameBytes kind key time value tag ++ more) = itemBody kind key time value tag := by
  unfold unfBody
  rw [frame_head h]
  simp [frameBytes]

theorem frame_crc {kind : Int} {key : ByteArray} {time value : Int} {tag : Nat} (h : isItemB kind key value tag = true) (more : List UInt8) :
    unfCrc (frameBytes kind key time value tag ++ more) = true := by
  unfold unfCrc
  rw [frame_body h, frame_head h, decide_eq_true_eq]
  have hc := crc_lt (itemBody kind key time value tag)
  have e : ((frameBytes kind key time value tag ++ more).drop (1 + (itemBody kind key time value tag).length)).take 2 = low (crc (itemBody kind key time value tag)) 2 := by
    rw [Nat.add_comm]
    simp [frameBytes, low_length]
  rw [e, numb_low]
  omega

theorem cut_key (x y : UInt8) (K R : List UInt8) : (x :: y :: (K ++ R)).drop (2 + K.length) = R := by
  rw [Nat.add_comm]; simp
theorem cut_more (x y : UInt8) (K A R : List UInt8) (n : Nat) (hA : A.length = n) : (x :: y :: (K ++ (A ++ R))).drop (2 + K.length + n) = R := by
  rw [← List.drop_drop, cut_key, List.drop_left' hA]

theorem frame_item {kind : Int} {key : ByteArray} {time value : Int} {tag : Nat} (h : isItemB kind key value tag = true) (ht : tag < 4294967296)
    (t1 : -9223372036854775808 ≤ time) (t2 : time < 9223372036854775808) (v1 : -9223372036854775808 ≤ value) (v2 : value < 9223372036854775808) :
    itemOfB (itemBody kind key time value tag) = true ∧ itemOfV (itemBody kind key time value tag) = itemV kind key time value tag := by
  rcases isItemB_cases h with ⟨rfl, hk, rfl, htg⟩ | ⟨rfl, hk1, hk8⟩
  · have hB : itemOfB (itemBody 2 key time 0 tag) = true := by simp [itemOfB, itemBody, bodyMark, low_length]
    refine ⟨hB, ?_⟩
    unfold itemOfV
    rw [if_pos hB, if_neg (by simp [itemBody, bodyMark])]
    have hkk : key = ⟨#[]⟩ := by
      rw [← str_of key, toList_nil hk]; rfl
    have htg : tag = 0 := by omega
    subst hkk htg
    have := numb_low (toU time) 8
    have := toU_lt time
    simp only [markVal, itemV, itemBody, bodyMark, if_true, List.drop_succ_cons, List.drop_zero]
    rw [numb_low, Nat.mod_eq_of_lt (by omega), toI_toU time t1 t2]
    rfl
  · have hkl := keyLen key
    have hkm : (UInt8.ofNat key.data.toList.length).toNat = key.size := by rw [UInt8.toNat_ofNat', hkl]; omega
    have hE : isEvent (itemBody 1 key time value tag) = true := by
      have e1 : ((itemBody 1 key time value tag).getD 1 0) = UInt8.ofNat key.data.toList.length := by simp [itemBody, bodyEvent]
      have e2 : (itemBody 1 key time value tag).length = 22 + key.size := by simp [itemBody, bodyEvent, low_length]; omega
      unfold isEvent
      rw [e1, e2, hkm]
      simp
      omega
    have hB : itemOfB (itemBody 1 key time value tag) = true := by
      unfold itemOfB
      rw [if_pos (by simp [itemBody, bodyEvent])]
      exact hE
    refine ⟨hB, ?_⟩
    unfold itemOfV
    rw [if_pos hB, if_pos (by simp [itemBody, bodyEvent])]
    have e1 : ((itemBody 1 key time value tag).getD 1 0) = UInt8.ofNat key.data.toList.length := by simp [itemBody, bodyEvent]
    rw [e1, hkm]
    have d0 : itemBody 1 key time value tag = 1 :: UInt8.ofNat key.data.toList.length :: (key.data.toList ++ (low (toU time) 8 ++ (low (toU value) 8 ++ low tag 4))) := by
      simp [itemBody, bodyEvent]
    have f1 : ((itemBody 1 key time value tag).drop 2).take key.size = key.data.toList := by
      rw [d0, ← hkl]
      exact List.take_left' rfl
    have f2 : ((itemBody 1 key time value tag).drop (2 + key.size)).take 8 = low (toU time) 8 := by
      rw [d0, ← hkl, cut_key, List.take_left' (low_length _ _)]
    have f3 : ((itemBody 1 key time value tag).drop (10 + key.size)).take 8 = low (toU value) 8 := by
      rw [d0, ← hkl, show 10 + key.data.toList.length = 2 + key.data.toList.length + 8 from by omega, cut_more _ _ _ _ _ _ (low_length _ _), List.take_left' (low_length _ _)]
    have f4 : (itemBody 1 key time value tag).drop (18 + key.size) = low tag 4 := by
      rw [d0, ← hkl, show 18 + key.data.toList.length = 2 + key.data.toList.length + 8 + 8 from by omega, ← List.drop_drop, cut_more _ _ _ _ _ _ (low_length _ _), List.drop_left' (low_length _ _)]
    have := toU_lt time
    have := toU_lt value
    unfold eventVal
    rw [f1, f2, f3, f4, numb_low, numb_low, numb_low, Nat.mod_eq_of_lt (by omega), Nat.mod_eq_of_lt (by omega), Nat.mod_eq_of_lt (by omega), toI_toU time t1 t2, toI_toU value v1 v2, str_of]
    rfl

theorem unf_frame {kind : Int} {key : ByteArray} {time value : Int} {tag : Nat} (h : isItemB kind key value tag = true) (ht : tag < 4294967296)
    (t1 : -9223372036854775808 ≤ time) (t2 : time < 9223372036854775808) (v1 : -9223372036854775808 ≤ value) (v2 : value < 9223372036854775808) (more : List UInt8) :
    unfV (frameBytes kind key time value tag ++ more) = itemV kind key time value tag ∧ unfN (frameBytes kind key time value tag ++ more) = ((frameBytes kind key time value tag).length : Nat) ∧ unfE (frameBytes kind key time value tag ++ more) = 0 := by
  have hs : unfShort (frameBytes kind key time value tag ++ more) = false := by
    unfold unfShort
    rw [frame_head h, List.length_append, frame_len h]
    simp
  obtain ⟨h1, h2⟩ := frame_item (time := time) (value := value) h ht t1 t2 v1 v2
  have ho : unfOk (frameBytes kind key time value tag ++ more) = true := by
    unfold unfOk
    rw [frame_crc h, frame_body h, h1]; rfl
  unfold unfV unfN unfE
  rw [hs, ho, frame_body h, frame_head h, frame_len h]
  simp [h2]

theorem unf_fewer {kind : Int} {key : ByteArray} {time value : Int} {tag : Nat} (h : isItemB kind key value tag = true) (k : Nat) (hk : k < (frameBytes kind key time value tag).length) :
    unfShort ((frameBytes kind key time value tag).take k) = true := by
  unfold unfShort
  cases k with
  | zero => simp
  | succ k =>
    have e : ((frameBytes kind key time value tag).take (k + 1)).getD 0 0 = (frameBytes kind key time value tag ++ []).getD 0 0 := by
      simp [frameBytes]
    rw [e, frame_head h, decide_eq_true_eq, List.length_take]
    rw [frame_len h] at hk
    omega

/-- One byte behind the first turned. -/
theorem unf_turned {kind : Int} {key : ByteArray} {time value : Int} {tag : Nat} (h : isItemB kind key value tag = true) (more : List UInt8) (k : Nat) (hk0 : 1 ≤ k) (hk : k < (frameBytes kind key time value tag).length) (y : UInt8) (hy : y ≠ (frameBytes kind key time value tag)[k]) :
    unfShort ((frameBytes kind key time value tag ++ more).set k y) = false ∧ unfOk ((frameBytes kind key time value tag ++ more).set k y) = false := by
  have hl := frame_len (time := time) h
  have hg : ((frameBytes kind key time value tag ++ more).set k y).getD 0 0 = (frameBytes kind key time value tag ++ more).getD 0 0 := by
    simp [List.getD_eq_getElem?_getD, show ¬ k = 0 from by omega]
  refine ⟨?_, ?_⟩
  · unfold unfShort
    rw [hg, frame_head h, List.length_set, List.length_append, hl]
    simp
  · unfold unfOk
    rw [Bool.and_eq_false_iff]
    refine .inl ?_
    unfold unfCrc
    rw [hg, frame_head h, decide_eq_false_iff_not]
    have hc := crc_lt (itemBody kind key time value tag)
    have hbl := itemBody_len (time := time) h
    generalize hbd : itemBody kind key time value tag = bd at *
    have hF : frameBytes kind key time value tag = UInt8.ofNat bd.length :: (bd ++ low (crc bd) 2) := by rw [← hbd]; rfl
    by_cases hb : k ≤ bd.length
    · have hset : (frameBytes kind key time value tag ++ more).set k y = UInt8.ofNat bd.length :: (bd.set (k - 1) y ++ (low (crc bd) 2 ++ more)) := by
        rw [hF]
        obtain ⟨k, rfl⟩ : ∃ j, k = j + 1 := ⟨k - 1, by omega⟩
        simp only [List.cons_append, List.set_cons_succ, List.append_assoc, Nat.add_sub_cancel]
        rw [List.set_append_left _ _ (by omega)]
      have hub : unfBody ((frameBytes kind key time value tag ++ more).set k y) = bd.set (k - 1) y := by
        unfold unfBody
        rw [hg, frame_head h, hbd, hset]
        simp only [List.drop_succ_cons, List.drop_zero]
        rw [List.take_append_of_le_length (by simp), List.take_of_length_le (by simp)]
      rw [hub, hset]
      have e : ((UInt8.ofNat bd.length :: (bd.set (k - 1) y ++ (low (crc bd) 2 ++ more))).drop (1 + bd.length)).take 2 = low (crc bd) 2 := by
        rw [Nat.add_comm]
        simp [low_length]
      rw [e, numb_low]
      intro hh
      have h2 : crc bd % 256 ^ 2 = crc bd := Nat.mod_eq_of_lt (by omega)
      rw [h2] at hh
      refine crc_set_ne bd (k - 1) (by omega) y ?_ hh.symm
      intro hye
      apply hy
      rw [hye]
      simp only [hF]
      obtain ⟨k, rfl⟩ : ∃ j, k = j + 1 := ⟨k - 1, by omega⟩
      simp only [List.getElem_cons_succ, Nat.add_sub_cancel]
      rw [List.getElem_append_left (by omega)]
    · have hset : (frameBytes kind key time value tag ++ more).set k y = UInt8.ofNat bd.length :: (bd ++ ((low (crc bd) 2).set (k - 1 - bd.length) y ++ more)) := by
        rw [hF]
        obtain ⟨k, rfl⟩ : ∃ j, k = j + 1 := ⟨k - 1, by omega⟩
        simp only [List.cons_append, List.set_cons_succ, List.append_assoc, Nat.add_sub_cancel]
        rw [List.set_append_right _ _ (by omega), List.set_append_left _ _ (by rw [low_length]; omega)]
      have hub : unfBody ((frameBytes kind key time value tag ++ more).set k y) = bd := by
        unfold unfBody
        rw [hg, frame_head h, hbd, hset]
        simp
      rw [hub, hset]
      have e : ((UInt8.ofNat bd.length :: (bd ++ ((low (crc bd) 2).set (k - 1 - bd.length) y ++ more))).drop (1 + bd.length)).take 2 = (low (crc bd) 2).set (k - 1 - bd.length) y := by
        rw [Nat.add_comm]
        simp only [List.drop_succ_cons, List.drop_left]
        rw [List.take_append_of_le_length (by simp [low_length]), List.take_of_length_le (by simp [low_length])]
      rw [e]
      intro hh
      have hcl : numb (low (crc bd) 2) = crc bd := by rw [numb_low]; omega
      have hh := hh.trans hcl.symm
      have hse := numb_inj _ _ (by simp) hh
      apply hy
      have hi : k - 1 - bd.length < (low (crc bd) 2).length := by rw [low_length]; omega
      have : ((low (crc bd) 2).set (k - 1 - bd.length) y)[k - 1 - bd.length]'(by simpa using hi) = y := by simp
      have h3 := List.getElem_of_eq hse (by simpa using hi : k - 1 - bd.length < _)
      rw [this] at h3
      rw [h3]
      simp only [hF]
      obtain ⟨k, rfl⟩ : ∃ j, k = j + 1 := ⟨k - 1, by omega⟩
      simp only [List.getElem_cons_succ, Nat.add_sub_cancel]
      rw [List.getElem_append_right (by omega)]

end Go.Proofs.YtcfngdnmpogaoaaGreat

/-
  A mark done, a source broken off: where no key is going on.
-/
namespace Go.Proofs.YtcfngdnmpogaoaaGreat
open Go.RowKit

/-- Numbers that fit. -/
structure SCells.Fits (r : SCells) : Prop where
  src : ∀ s ∈ r.src, -2305843009213693952 ≤ s.time ∧ s.time ≤ 2305843009213693952
  late : 0 ≤ r.late ∧ r.late ≤ 1099511627776

theorem leastF_fits (l : List SSrc) (h : ∀ s ∈ l, -2305843009213693952 ≤ s.time ∧ s.time ≤ 2305843009213693952) : -2305843009213693952 ≤ (leastF l).1 ∧ (leastF l).1 ≤ 2305843009213693952 := by
  unfold leastF
  have key : ∀ (l : List SSrc) (m : Int × Bool), (∀ s ∈ l, -2305843009213693952 ≤ s.time ∧ s.time ≤ 2305843009213693952) → (-2305843009213693952 ≤ m.1 ∧ m.1 ≤ 2305843009213693952) → -2305843009213693952 ≤ (l.foldl leastStep m).1 ∧ (l.foldl leastStep m).1 ≤ 2305843009213693952 := by
    intro l
    induction l with
    | nil => intro m _ hm; exact hm
    | cons s l ih =>
      intro m hl hm
      refine ih _ (fun x hx => hl x (List.mem_cons_of_mem _ hx)) ?_
      unfold leastStep
      split
      · exact hl s List.mem_cons_self
      · exact hm
  exact key l _ h (by simp)

theorem SCells.Fits.wrap {r : SCells} (h : r.Fits) : IntKind.i64.wrap ((leastF r.src).1 - r.late) = (leastF r.src).1 - r.late := by
  have := leastF_fits r.src h.src
  have := h.late
  rw [IntKind.wrap_i64]; omega

theorem SCells.moved_src (r : SCells) : r.moved.src = r.src := by unfold SCells.moved; (repeat' split) <;> rfl
theorem SCells.moved_late (r : SCells) : r.moved.late = r.late := by unfold SCells.moved; (repeat' split) <;> rfl
theorem SCells.moved_going (r : SCells) : r.moved.going = r.going := by unfold SCells.moved; (repeat' split) <;> rfl
theorem SCells.moved_lk (r : SCells) : r.moved.lk = r.lk := by unfold SCells.moved; (repeat' split) <;> rfl
theorem SCells.moved_n (r : SCells) : r.moved.n = r.n := by unfold SCells.moved; (repeat' split) <;> rfl
theorem SCells.moved_fits {r : SCells} (h : r.Fits) : r.moved.Fits := ⟨by rw [r.moved_src]; exact h.src, by rw [r.moved_late]; exact h.late⟩
theorem SCells.setSrc_fits {r : SCells} (h : r.Fits) (j : Nat) (s : SSrc) (hs : -2305843009213693952 ≤ s.time ∧ s.time ≤ 2305843009213693952) : (r.setSrc j s).Fits :=
  ⟨fun x hx => by
    rcases List.mem_or_eq_of_mem_set hx with h1 | h1
    · exact h.src x h1
    · rw [h1]; exact hs, h.late⟩

theorem moveLine_nil (g : Nat) (r : SCells) (w : World) (h : SF w g r) (hg : r.going = .slice none 0 0) (hf : r.Fits) :
    Calls Tryz.prog 77 #[.pointer (some ⟨g, 0, none⟩)] w fun e w' => e = .returned (.tuple #[]) ∧ SF w' g r.moved ∧ Kept (fun k => k = g) w w' := by
  refine moveLine_of g r w h (fun k => k = g) rfl (fun w' => SF w' g r.moved ∧ Kept (fun k => k = g) w w') (fun w' h1 h2 h3 => ⟨?_, h2⟩) hf.wrap (fun W h1 h2 _ => ?_)
  · have : r.moved = r := by rw [SCells.moved, h3]; rfl
    rw [this]; exact h1
  · refine (endRuns_nil g r.moved W h1 (by rw [r.moved_going]; exact hg)).mono ?_
    rintro e w' ⟨rfl, h3, h4⟩
    exact ⟨rfl, h3, h2.trans h4⟩

def clampT (t : Int) : Int := if 2305843009213693952 < if t < -2305843009213693952 then -2305843009213693952 else t then 2305843009213693952 else if t < -2305843009213693952 then -2305843009213693952 else t
def SSrc.raised (s : SSrc) (x : Int) : SSrc := if s.is = false ∨ s.time < x then ⟨s.opened, s.broken, s.unread, x, true⟩ else s
def SCells.addMark (r : SCells) : SCells := { r with n := { r.n with marks := wrap64 (r.n.marks + 1) } }
def SCells.addBroken (r : SCells) : SCells := { r with n := { r.n with broken := wrap64 (r.n.broken + 1) } }

theorem clampT_fits (t : Int) : -2305843009213693952 ≤ clampT t ∧ clampT t ≤ 2305843009213693952 := by unfold clampT; (repeat' split) <;> omega

set_option maxRecDepth 20000 in
set_option maxHeartbeats 1600000 in
theorem do_mark (g n : Nat) (r : SCells) (s : SSrc) (key : ByteArray) (t v : Int) (tag : Int) (w : World) (h : SF w g r) (hs : r.src[n]? = some s) (hg : r.going = .slice none 0 0) (hf : r.Fits) :
    Calls Tryz.prog 72 #[.pointer (some ⟨g, 0, none⟩), .pointer (some ⟨g, 6 + n * 5, none⟩), itemV 2 key t v tag] w fun e w' => e = .returned (.tuple #[]) ∧ SF w' g (r.addMark.setSrc n (s.raised (clampT t))).moved ∧ Kept (fun k => k = g) w w' := by
  have hglt := h.lt
  have H : Hid (SF w g r) := h
  have fz : ∀ j, w.frozen? ⟨g, j, none⟩ = false := h.frozen
  clear h
  unfold itemV
  have hn : n < r.src.length := (List.getElem?_eq_some_iff.1 hs).1
  have hr : (r.addMark.setSrc n (s.raised (clampT t))).Fits → (r.addMark.setSrc n (s.raised (clampT t))).going = .slice none 0 0 → ∀ W, SF W g (r.addMark.setSrc n (s.raised (clampT t))) → Calls Tryz.prog 77 #[.pointer (some ⟨g, 0, none⟩)] W fun e w' => e = .returned (.tuple #[]) ∧ SF w' g (r.addMark.setSrc n (s.raised (clampT t))).moved ∧ Kept (fun k => k = g) W w' := fun h1 h2 W h3 => moveLine_nil g _ W h3 h2 h1
  have hfs : -2305843009213693952 ≤ (s.raised (clampT t)).time ∧ (s.raised (clampT t)).time ≤ 2305843009213693952 := by
    unfold SSrc.raised
    split
    · exact clampT_fits t
    · exact hf.src s (List.mem_of_getElem? hs)
  have HR : Hid (∀ W, SF W g (r.addMark.setSrc n (s.raised (clampT t))) → Calls Tryz.prog 77 #[.pointer (some ⟨g, 0, none⟩)] W fun e w' => e = .returned (.tuple #[]) ∧ SF w' g (r.addMark.setSrc n (s.raised (clampT t))).moved ∧ Kept (fun k => k = g) W w') :=
    hr (SCells.setSrc_fits (r := r.addMark) ⟨hf.src, hf.late⟩ n _ hfs) hg
  clear hr hfs hf
  have hBg : ¬ w.heap.size = g := by omega
  have hgB : ¬ g = w.heap.size := by omega
  go_enter Tryz.func72, Tryz.ntmps72
  go_wp2_with fail
  have d2 : (w.alloc (.cells #[.int .i64 2, .string key, .int .i64 t, .int .i64 v, .int .u32 tag] 28)).cell? ⟨w.heap.size, 2, none⟩ = some (.int .i64 t) := by simp
  have H1 : Hid (SF (w.alloc (.cells #[.int .i64 2, .string key, .int .i64 t, .int .i64 v, .int .u32 tag] 28)) g r) := H.out.congr (Below.heap_alloc _ _ _ hglt)
  have K1 : Hid (Kept (fun k => k = g) w (w.alloc (.cells #[.int .i64 2, .string key, .int .i64 t, .int .i64 v, .int .u32 tag] 28))) := (Kept.refl _ w).alloc _
  generalize w.alloc (.cells #[.int .i64 2, .string key, .int .i64 t, .int .i64 v, .int .u32 tag] 28) = W1 at *
  generalize hB : w.heap.size = B at *
  clear hB
  refine (add_any g 54 r.n.marks 1 W1 (H1.out.tailAt 8 rfl) (H1.out.frozen _)).mono ?_
  rintro e W2 ⟨rfl, rfl⟩
  have H2 : Hid (SF (W1.setCell ⟨g, 54, none⟩ (.int .i64 (wrap64 (r.n.marks + 1)))) g r.addMark) := H1.out.putTail 8 _ rfl rfl rfl
  have K2 : Hid (Kept (fun k => k = g) w (W1.setCell ⟨g, 54, none⟩ (.int .i64 (wrap64 (r.n.marks + 1))))) := K1.out.setCell ⟨g, 54, none⟩ _ (fun _ => rfl)
  have e2 : (W1.setCell ⟨g, 54, none⟩ (.int .i64 (wrap64 (r.n.marks + 1)))).cell? ⟨B, 2, none⟩ = some (.int .i64 t) := by rw [World.cell?_setCell_far _ _ _ _ (by simpa using hgB)]; exact d2
  generalize W1.setCell ⟨g, 54, none⟩ (.int .i64 (wrap64 (r.n.marks + 1))) = W2 at *
  clear d2 fz
  go_wp2_with fail
  refine wp_region_still_tail 7 (by kernel_rfl) (by kernel_rfl) ?_
  simp only [List.take_succ_cons, List.take_zero, List.drop_succ_cons, List.drop_zero]
  change wpStill Tryz.prog _ W2.drew (fun a' => wpList Tryz.prog _ _ _ a' W2.drew) _ _
  have e2 : W2.drew.cell? ⟨B, 2, none⟩ = some (.int .i64 t) := e2
  have H3 : Hid (SF W2.drew g r.addMark) := H2.out.congr rfl
  have K3 : Hid (Kept (fun k => k = g) w W2.drew) := K2.out.drew
  generalize W2.drew = W3 at *
  repeat still_step
  refine wpStill_nil ?_
  have hcl : (if 2305843009213693952 < if t < -2305843009213693952 then -2305843009213693952 else t then 2305843009213693952 else if t < -2305843009213693952 then -2305843009213693952 else t) = clampT t := rfl
  rw [hcl]
  clear hcl
  generalize (if t < -2305843009213693952 then -2305843009213693952 else t) = T0
  obtain ⟨T, HT⟩ : ∃ T, Hid (clampT t = T) := ⟨_, rfl⟩
  rw [HT.out]
  rw [HT.out] at HR
  have c3 : W3.cell? ⟨g, 6 + n * 5 + 3, none⟩ = some (.int .i64 s.time) := H3.out.cell (r.addMark.srcAt n 3 s hs (by omega))
  have c4 : W3.cell? ⟨g, 6 + n * 5 + 3 + 1, none⟩ = some (.bool s.is) := H3.out.cell (r.addMark.srcAt n 4 s hs (by omega))
  by_cases hup : s.is = false ∨ s.time < T
  · have HQ : Hid (Calls Tryz.prog 98 #[.pointer (some ⟨g, 6 + n * 5 + 3, none⟩), .int .i64 T] W3 fun e w' => e = .returned (.tuple #[]) ∧ w' = (W3.setCell ⟨g, 6 + n * 5 + 3, none⟩ (.int .i64 T)).setCell ⟨g, 6 + n * 5 + 3 + 1, none⟩ (.bool true)) := raise_yes g _ s.time T s.is W3 c3 c4 H3.out.frozen hup
    have HS : Hid (s.raised T = ⟨s.opened, s.broken, s.unread, T, true⟩) := by show _ = _; rw [SSrc.raised, if_pos hup]
    clear c3 c4 e2
    go_wp2_with fail
    refine HQ.out.mono ?_
    rintro e W4 ⟨rfl, rfl⟩
    have H4 : Hid (SF ((W3.setCell ⟨g, 6 + n * 5 + 3, none⟩ (.int .i64 T)).setCell ⟨g, 6 + n * 5 + 3 + 1, none⟩ (.bool true)) g (r.addMark.setSrc n (s.raised T))) := by show SF _ _ _; rw [HS.out]; exact H3.out.putMoment n s T true hs
    have K4 : Hid (Kept (fun k => k = g) w ((W3.setCell ⟨g, 6 + n * 5 + 3, none⟩ (.int .i64 T)).setCell ⟨g, 6 + n * 5 + 3 + 1, none⟩ (.bool true))) := (K3.out.setCell ⟨g, _, none⟩ _ (fun _ => rfl)).setCell ⟨g, _, none⟩ _ (fun _ => rfl)
    generalize (W3.setCell ⟨g, 6 + n * 5 + 3, none⟩ (.int .i64 T)).setCell ⟨g, 6 + n * 5 + 3 + 1, none⟩ (.bool true) = W5 at *
    go_wp2_with fail
    refine (HR.out W5 H4.out).mono ?_
    rintro e W6 ⟨rfl, h6, k6⟩
    have H6 : Hid _ := h6
    have K6 : Hid (Kept (fun k => k = g) w W6) := K4.out.trans k6
    clear h6 k6
    go_wp2
    go_end0
    exact ⟨rfl, by rw [HT.out]; exact H6.out, K6.out⟩
  · have hsi : s.is = true := by cases h : s.is <;> simp [h] at hup ⊢
    have HQ : Hid (Calls Tryz.prog 98 #[.pointer (some ⟨g, 6 + n * 5 + 3, none⟩), .int .i64 T] W3 fun e w' => e = .returned (.tuple #[]) ∧ w' = W3) := raise_no g _ s.time T W3 c3 (by rw [c4, hsi]) (fun h => hup (.inr h))
    have HS : Hid (r.addMark.setSrc n (s.raised T) = r.addMark) := by
      show _ = _
      rw [SSrc.raised, if_neg hup, SCells.setSrc]
      have : r.addMark.src.set n s = r.addMark.src := List.ext_getElem? (fun i => by
        rw [List.getElem?_set]
        split
        · rename_i h; subst h
          rw [if_pos (show n < r.addMark.src.length from hn)]; exact hs.symm
        · rfl)
      rw [this]
    have H4 : Hid (SF W3 g (r.addMark.setSrc n (s.raised T))) := by show SF _ _ _; rw [HS.out]; exact H3.out
    clear c3 c4 e2
    go_wp2_with fail
    refine HQ.out.mono ?_
    rintro e W4 ⟨rfl, rfl⟩
    go_wp2_with fail
    refine (HR.out _ H4.out).mono ?_
    rintro e W6 ⟨rfl, h6, k6⟩
    have H6 : Hid _ := h6
    have K6 : Hid (Kept (fun k => k = g) w W6) := K3.out.trans k6
    clear h6 k6
    go_wp2
    go_end0
    exact ⟨rfl, by rw [HT.out]; exact H6.out, K6.out⟩

set_option maxRecDepth 20000 in
set_option maxHeartbeats 1600000 in
theorem breakOff_nil (g n : Nat) (r : SCells) (s : SSrc) (w : World) (h : SF w g r) (hs : r.src[n]? = some s) (hg : r.going = .slice none 0 0) (hf : r.Fits) :
    Calls Tryz.prog 71 #[.pointer (some ⟨g, 0, none⟩), .pointer (some ⟨g, 6 + n * 5, none⟩)] w fun e w' => e = .returned (.tuple #[]) ∧ SF w' g (r.setSrc n ⟨true, true, .slice none 0 0, 0, false⟩).addBroken.moved ∧ Kept (fun k => k = g) w w' := by
  have HR : Hid (∀ W, SF W g (r.setSrc n ⟨true, true, .slice none 0 0, 0, false⟩).addBroken → Calls Tryz.prog 77 #[.pointer (some ⟨g, 0, none⟩)] W fun e w' => e = .returned (.tuple #[]) ∧ SF w' g (r.setSrc n ⟨true, true, .slice none 0 0, 0, false⟩).addBroken.moved ∧ Kept (fun k => k = g) W w') := fun W h3 =>
    moveLine_nil g _ W h3 hg (by have := SCells.setSrc_fits hf n ⟨true, true, .slice none 0 0, 0, false⟩ (by simp); exact ⟨this.src, this.late⟩)
  have c0 : w.cell? ⟨g, 6 + n * 5, none⟩ = some (.bool s.opened) := h.cell (r.srcAt n 0 s hs (by omega))
  have c1 : w.cell? ⟨g, 6 + n * 5 + 1, none⟩ = some (.bool s.broken) := h.cell (r.srcAt n 1 s hs (by omega))
  have c2 : w.cell? ⟨g, 6 + n * 5 + 2, none⟩ = some s.unread := h.cell (r.srcAt n 2 s hs (by omega))
  have c3 : w.cell? ⟨g, 6 + n * 5 + 3, none⟩ = some (.int .i64 s.time) := h.cell (r.srcAt n 3 s hs (by omega))
  have c4 : w.cell? ⟨g, 6 + n * 5 + 4, none⟩ = some (.bool s.is) := h.cell (r.srcAt n 4 s hs (by omega))
  have fz : ∀ j, w.frozen? ⟨g, j, none⟩ = false := h.frozen
  have H1 : Hid (SF (((((w.setCell ⟨g, 6 + n * 5, none⟩ (.bool true)).setCell ⟨g, 6 + n * 5 + 1, none⟩ (.bool true)).setCell ⟨g, 6 + n * 5 + 2, none⟩ (.slice none 0 0)).setCell ⟨g, 6 + n * 5 + 3, none⟩ (.int .i64 0)).setCell ⟨g, 6 + n * 5 + 4, none⟩ (.bool false)) g (r.setSrc n ⟨true, true, .slice none 0 0, 0, false⟩)) := h.putAll n s true true (.slice none 0 0) 0 false hs
  have K1 : Hid (Kept (fun k => k = g) w (((((w.setCell ⟨g, 6 + n * 5, none⟩ (.bool true)).setCell ⟨g, 6 + n * 5 + 1, none⟩ (.bool true)).setCell ⟨g, 6 + n * 5 + 2, none⟩ (.slice none 0 0)).setCell ⟨g, 6 + n * 5 + 3, none⟩ (.int .i64 0)).setCell ⟨g, 6 + n * 5 + 4, none⟩ (.bool false))) := by
    refine Kept.setCell ?_ ⟨g, _, none⟩ _ (fun _ => rfl)
    refine Kept.setCell ?_ ⟨g, _, none⟩ _ (fun _ => rfl)
    refine Kept.setCell ?_ ⟨g, _, none⟩ _ (fun _ => rfl)
    refine Kept.setCell ?_ ⟨g, _, none⟩ _ (fun _ => rfl)
    refine Kept.setCell ?_ ⟨g, _, none⟩ _ (fun _ => rfl)
    exact Kept.refl _ w
  clear h
  go_enter Tryz.func71, Tryz.ntmps71
  go_wp2_with fail
  generalize ((((w.setCell ⟨g, 6 + n * 5, none⟩ (.bool true)).setCell ⟨g, 6 + n * 5 + 1, none⟩ (.bool true)).setCell ⟨g, 6 + n * 5 + 2, none⟩ (.slice none 0 0)).setCell ⟨g, 6 + n * 5 + 3, none⟩ (.int .i64 0)).setCell ⟨g, 6 + n * 5 + 4, none⟩ (.bool false) = W1 at *
  refine (add_any g 55 r.n.broken 1 W1 (H1.out.tailAt 9 rfl) (H1.out.frozen _)).mono ?_
  rintro e W2 ⟨rfl, rfl⟩
  have H2 : Hid (SF (W1.setCell ⟨g, 55, none⟩ (.int .i64 (wrap64 (r.n.broken + 1)))) g (r.setSrc n ⟨true, true, .slice none 0 0, 0, false⟩).addBroken) := H1.out.putTail 9 _ rfl rfl rfl
  have K2 : Hid (Kept (fun k => k = g) w (W1.setCell ⟨g, 55, none⟩ (.int .i64 (wrap64 (r.n.broken + 1))))) := K1.out.setCell ⟨g, 55, none⟩ _ (fun _ => rfl)
  generalize W1.setCell ⟨g, 55, none⟩ (.int .i64 (wrap64 (r.n.broken + 1))) = W2 at *
  clear c0 c1 c2 c3 c4 fz
  go_wp2_with fail
  refine (HR.out W2 H2.out).mono ?_
  rintro e W6 ⟨rfl, h6, k6⟩
  have H6 : Hid _ := h6
  have K6 : Hid (Kept (fun k => k = g) w W6) := K2.out.trans k6
  clear h6 k6
  go_wp2
  go_end0
  exact ⟨rfl, H6.out, K6.out⟩
end Go.Proofs.YtcfngdnmpogaoaaGreat

/- Appends of nothing, and of fresh zeros to a nil slice. Nothing here speaks of one program. -/
namespace Go.Proofs.YtcfngdnmpogaoaaGreat
open Go.RowKit

section
variable {P : Program} (w : World)

theorem run_append_none (t tx ty e : TypeId) (i : TypeInfo) (ht : P.underlying t = some (.slice e)) (hi : P.info? e = some i) (base : Option Addr) (n cap : Nat) (hn : n ≤ cap) (x : Value) (hs : Src P i.size tx x 0 [] w) :
    (Builtin.append_ #[t, tx] ty #[.slice base n cap, x]).run P w = .ok (.slice base n cap) w := by
  rcases hs.kind with ⟨e', hk⟩ | hk <;> cases base <;> simp [Builtin.append_, run_underlying ht, run_underlying hk, sizeOf, typeInfo, hi, hs.len, hn, hs.cells, storeCells]

theorem wpList_append_none {ops : Array Oper} {rest : List Oper} {o : Oper} {a : Act} {Q : Exit → Act → World → Prop} (hgd : o.guard = none) (s x : Operand) (t tx : TypeId)
    (ho : o.op = .call { callee := .builtin .append, args := #[s, x], argTypes := #[t, tx] })
    (e : TypeId) (i : TypeInfo) (sz : Nat) (ht : P.underlying t = some (.slice e)) (hi : P.info? e = some i) (hsize : i.size = sz)
    (base : Option Addr) (n cap : Nat) (hev : a.eval s = .slice base n cap) (hn : n ≤ cap) (xv : Value) (hx : a.eval x = xv) (hs : Src P sz tx xv 0 [] w)
    (h : wpList P ops Q rest (a.put o.dst (.slice base n cap)) w) : wpList P ops Q (o :: rest) a w :=
  wpList_plain hgd fun _ hK => by
    subst hsize
    have hr := run_append_none (P := P) w t tx o.type e i ht hi base n cap hn xv hs
    unfold Oper.wp execOp
    simp only [ho, resolve, invoke, builtin, Sem.run_bind, Sem.run_pure, Result.andThen_ok, List.map_toArray, List.map_cons, List.map_nil, hev, hx, hr]
    exact hK _ _ h

theorem run_append_make (t tx ty e : TypeId) (i : TypeInfo) (z : Value) (ht : P.underlying t = some (.slice e)) (htx : P.underlying tx = some (.int .i64)) (hi : P.info? e = some i) (hz : i.zero = some z)
    (_hzs : z.cells.size = i.size) (hsz : 0 < i.size) (n : Nat) (hn : 0 < n) (hm : n ≤ maxLen) (hb : n * i.bytes ≤ 140737488355328) :
    (Builtin.append_ #[t, tx] ty #[.slice none 0 0, .int .i64 n]).run P w =
      .ok (.slice (some ⟨w.heap.size, 0, none⟩) n (grownCap w n 0 e)) (w.drew.alloc (.cells (Builtin.zeroCells z.cells n ++ Builtin.zeroCells z.cells (grownCap w n 0 e - n)) e)) := by
  have hm' := hm
  simp only [maxLen] at hm'
  have hwr : IntKind.i64.wrap (n : Int) = n := by rw [IntKind.wrap_i64]; omega
  have h0 : ¬ ((n : Int) < 0) := by omega
  have h63' : ¬ (9223372036854775807 < (n : Int)) := by omega
  have hfit : Builtin.nextslicecap (0 + n) 0 * i.bytes ≤ 281474976710656 := growslice_fits (by omega) (by simpa using hb)
  rw [Nat.zero_add] at hfit
  have h48' : ¬ (281474976710656 < Builtin.nextslicecap n 0 * i.bytes) := by omega
  have hbi : ¬ (281474976710656 < (n : Int) * i.bytes) := by have : (n : Int) * i.bytes = ((n * i.bytes : Nat) : Int) := by simp
                                                             omega
  have hne : ¬ (n = 0) := by omega
  simp [Builtin.append_, run_underlying ht, run_underlying htx, sizeOf, typeInfo, zeroValue, hi, hz, h0, hwr, h63', h48', hbi, hne, Question.forced, newRow, grownCap, Builtin.firstCells, asInt, asIntOf]
  intro hh
  exact absurd hh (by have := Nat.mul_pos hn hsz; omega)

theorem wpList_append_make {ops : Array Oper} {rest : List Oper} {o : Oper} {a : Act} {Q : Exit → Act → World → Prop} (hgd : o.guard = none) (s x : Operand) (t tx : TypeId)
    (ho : o.op = .call { callee := .builtin .append, args := #[s, x], argTypes := #[t, tx] })
    (e : TypeId) (i : TypeInfo) (z : Value) (sz bytes : Nat) (ht : P.underlying t = some (.slice e)) (htx : P.underlying tx = some (.int .i64)) (hi : P.info? e = some i) (hz : i.zero = some z)
    (hsize : i.size = sz) (hby : i.bytes = bytes) (hzs : z.cells.size = sz) (hsz : 0 < sz)
    (n : Nat) (hev : a.eval s = .slice none 0 0) (hx : a.eval x = .int .i64 n) (hn : 0 < n) (hm : n ≤ maxLen) (hb : n * bytes ≤ 140737488355328)
    (h : ∀ cap w', n ≤ cap → (∀ k, k < w.heap.size → w'.heap[k]? = w.heap[k]?) → Below w.heap.size w w' → w.heap.size < w'.heap.size → Row w' e sz (.slice (some ⟨w.heap.size, 0, none⟩) 0 cap) [] → wpList P ops Q rest (a.put o.dst (.slice (some ⟨w.heap.size, 0, none⟩) n cap)) w') : wpList P ops Q (o :: rest) a w :=
  wpList_plain hgd fun _ hK => by
    subst hsize
    subst hby
    have hr := run_append_make (P := P) w t tx o.type e i z ht htx hi hz hzs hsz n hn hm hb
    have hge := grownCap_ge w n 0 e
    have hcm := grownCap_le_maxLen w n 0 e hm
    unfold Oper.wp execOp
    simp only [ho, resolve, invoke, builtin, Sem.run_bind, Sem.run_pure, Result.andThen_ok, List.map_toArray, List.map_cons, List.map_nil, hev, hx, hr]
    refine hK _ _ (h _ _ hge (fun k hk => Below.heap_alloc w.drew _ k hk) (((Below.refl _ w).drew).alloc (by simp) _) (by simp) (.inr ⟨w.heap.size, 0, 0, _, _, rfl, heap_alloc_new w.drew _, Nat.zero_le _, hcm, ?_, by simp, fun j hj => by simp at hj⟩))
    simp only [Array.size_append, size_zeroCells, hzs, ← Nat.add_mul, Nat.zero_add]
    exact Nat.le_of_eq (by congr 1; omega)

/-- append, of nothing too. -/
theorem append_row_any (t tx ty e : TypeId) (i : TypeInfo) (z : Value) (sz bytes : Nat) (ht : P.underlying t = some (.slice e)) (hi : P.info? e = some i) (hz : i.zero = some z)
    (hsize : i.size = sz) (hby : i.bytes = bytes) (hzs : z.cells.size = sz) (hsz : 0 < sz)
    (v : Value) (xs : List Value) (hrow : Row w e sz v xs) (x : Value) (m : Nat) (news : List Value) (hs : Src P sz tx x m news w)
    (h63 : xs.length + m ≤ maxLen) (hbytes : (xs.length + m * sz) * bytes ≤ 140737488355328 * sz) :
    ∃ v' w', (Builtin.append_ #[t, tx] ty #[v, x]).run P w = .ok v' w' ∧ App w w' e sz v v' xs news ∧ (m = 0 → v' = v) := by
  by_cases hm : 0 < m
  · obtain ⟨v', w', h1, h2⟩ := append_row w t tx ty e i z sz bytes ht hi hz hsize hby hzs hsz v xs hrow x m news hs hm h63 hbytes
    exact ⟨v', w', h1, h2, fun h => by omega⟩
  · have hm0 : m = 0 := by omega
    subst hm0
    have hn : news = [] := List.eq_nil_of_length_eq_zero (by rw [hs.newsLen]; omega)
    subst hn
    obtain ⟨base, n, cap, rfl, hnc⟩ : ∃ base n cap, v = .slice base n cap ∧ n ≤ cap := by
      rcases hrow with ⟨rfl, _⟩ | ⟨g, off, n, cap, cur, rfl, _, hn, _⟩
      · exact ⟨_, _, _, rfl, Nat.le_refl _⟩
      · exact ⟨_, _, _, rfl, hn⟩
    subst hsize
    exact ⟨_, _, run_append_none w t tx ty e i ht hi base n cap hnc x hs, ⟨by rw [List.append_nil]; exact hrow, ⟨rfl, rfl, rfl, Nat.le_refl _, fun _ _ _ => rfl⟩, .inl ⟨rfl, rfl⟩, fun _ _ hu _ => hu⟩, fun _ => rfl⟩

theorem wpList_append_any {ops : Array Oper} {rest : List Oper} {o : Oper} {a : Act} {Q : Exit → Act → World → Prop} (hgd : o.guard = none) (s x : Operand) (t tx : TypeId)
    (ho : o.op = .call { callee := .builtin .append, args := #[s, x], argTypes := #[t, tx] })
    (e : TypeId) (i : TypeInfo) (z : Value) (sz bytes : Nat) (ht : P.underlying t = some (.slice e)) (hi : P.info? e = some i) (hz : i.zero = some z)
    (hsize : i.size = sz) (hby : i.bytes = bytes) (hzs : z.cells.size = sz) (hsz : 0 < sz)
    (v : Value) (xs : List Value) (hev : a.eval s = v) (hrow : Row w e sz v xs) (xv : Value) (m : Nat) (news : List Value) (hx : a.eval x = xv) (hs : Src P sz tx xv m news w)
    (h63 : xs.length + m ≤ maxLen) (hbytes : (xs.length + m * sz) * bytes ≤ 140737488355328 * sz)
    (h : ∀ v' w', App w w' e sz v v' xs news → (m = 0 → v' = v) → wpList P ops Q rest (a.put o.dst v') w') : wpList P ops Q (o :: rest) a w :=
  wpList_plain hgd fun _ hK => by
    obtain ⟨v', w', hr, h2, h3⟩ := append_row_any (P := P) w t tx o.type e i z sz bytes ht hi hz hsize hby hzs hsz v xs hrow xv m news hs h63 hbytes
    unfold Oper.wp execOp
    simp only [ho, resolve, invoke, builtin, Sem.run_bind, Sem.run_pure, Result.andThen_ok, List.map_toArray, List.map_cons, List.map_nil, hev, hx, hr]
    exact hK _ _ (h v' w' h2 h3)

/-- A slice as what is appended. -/
theorem Row.src {e e' tx : TypeId} {v : Value} {xs : List Value} (h : Row w e 1 v xs) (h1 : ∀ u ∈ xs, u.oneCell' = true) (hk : P.underlying tx = some (.slice e')) : Src P 1 tx v xs.length xs w := by
  by_cases hx : xs = []
  · subst hx
    rcases h with ⟨rfl, _⟩ | ⟨g, off, n, cap, cur, rfl, _, _, _, _, hl, _⟩
    · exact Src.ofNil w hk 0
    · have : n = 0 := by simpa using hl.symm
      subst this
      exact Src.ofSlice w hk ⟨g, off, none⟩ 0 cap [] (by simp) (fun j u hu => by simp at hu) (fun u hu => by simp at hu)
  · obtain ⟨g, off, n, cap, rfl, hl, _⟩ := h.shape hx
    have hl' : xs.length = n := by simpa using hl
    rw [hl']
    refine Src.ofSlice w hk ⟨g, off, none⟩ n cap xs hl (fun j u hu => ?_) h1
    rw [Addr.add_lit, h.cell j (by have := (List.getElem?_eq_some_iff.1 hu).1; omega)]; exact hu

end
end Go.Proofs.YtcfngdnmpogaoaaGreat
