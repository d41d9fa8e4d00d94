/- What is framed is read as what it was; of fewer bytes there is none yet; with a bit turned there is none. Lists of bytes alone. -/
import Derived.Test.YtcfngdnmpogaoaaWalk12
namespace Go.Proofs.Ytcfngdnmpogaoaa
open Go.RowKit

theorem crcBit_top (c : Nat) (h : c < 65536) : 32768 ≤ crcBit c ↔ c % 2 = 1 := by
  unfold crcBit
  split
  · rename_i ho
    constructor
    · intro _; exact ho
    · intro _
      have h1 : (c / 2 ^^^ 40961).testBit 15 = true := by
        rw [Nat.testBit_xor, Nat.testBit_lt_two_pow (show c / 2 < 2 ^ 15 by omega)]
        decide
      exact Nat.ge_two_pow_of_testBit h1
  · omega

theorem crcBit_inj (a b : Nat) (ha : a < 65536) (hb : b < 65536) (h : crcBit a = crcBit b) : a = b := by
  have ta := crcBit_top a ha
  have tb := crcBit_top b hb
  rw [h] at ta
  have hp : a % 2 = b % 2 := by omega
  unfold crcBit at h
  by_cases ho : a % 2 = 1
  · rw [if_pos ho, if_pos (by omega)] at h
    have : a / 2 = b / 2 := by
      have := congrArg (· ^^^ 40961) h
      simpa [Nat.xor_assoc] using this
    omega
  · rw [if_neg ho, if_neg (by omega)] at h
    omega

theorem crcN_inj (n a b : Nat) (ha : a < 65536) (hb : b < 65536) (h : crcN n a = crcN n b) : a = b := by
  induction n with
  | zero => exact h
  | succ n ih => exact ih (crcBit_inj _ _ (crcN_lt _ _ ha) (crcN_lt _ _ hb) h)

theorem xor_left_inj (a b x : Nat) (h : a ^^^ x = b ^^^ x) : a = b := by
  have := congrArg (· ^^^ x) h
  simpa [Nat.xor_assoc] using this

theorem crcFrom_inj (l : List UInt8) (a b : Nat) (ha : a < 65536) (hb : b < 65536) (h : crcFrom a l = crcFrom b l) : a = b := by
  induction l generalizing a b with
  | nil => exact h
  | cons x l ih =>
    have := ih _ _ (crcN_lt 8 _ (xor_byte_lt a x ha)) (crcN_lt 8 _ (xor_byte_lt b x hb)) h
    exact xor_left_inj _ _ x.toNat (crcN_inj 8 _ _ (xor_byte_lt a x ha) (xor_byte_lt b x hb) this)

theorem crcFrom_app (l m : List UInt8) (c : Nat) : crcFrom c (l ++ m) = crcFrom (crcFrom c l) m := by
  induction l generalizing c with
  | nil => rfl
  | cons x l ih => exact ih _

/-- One byte turned: another check. -/
theorem crc_set_ne (l : List UInt8) (j : Nat) (hj : j < l.length) (y : UInt8) (hy : y ≠ l[j]) : crc (l.set j y) ≠ crc l := by
  intro h
  have e1 : l.set j y = l.take j ++ (y :: l.drop (j + 1)) := by rw [List.set_eq_take_append_cons_drop, if_pos hj]
  have e2 : l = l.take j ++ (l[j] :: l.drop (j + 1)) := by rw [← List.drop_eq_getElem_cons hj, List.take_append_drop]
  unfold crc at h
  rw [e1] at h
  conv at h => rhs; rw [e2]
  rw [crcFrom_app, crcFrom_app] at h
  have hc := crcFrom_lt (l.take j) 65535 (by decide)
  have := crcFrom_inj _ _ _ (crcN_lt 8 _ (xor_byte_lt _ y hc)) (crcN_lt 8 _ (xor_byte_lt _ l[j] hc)) h
  have := crcN_inj 8 _ _ (xor_byte_lt _ y hc) (xor_byte_lt _ l[j] hc) this
  rw [Nat.xor_comm _ y.toNat, Nat.xor_comm _ l[j].toNat] at this
  exact hy (UInt8.toNat_inj.1 (xor_left_inj _ _ _ this))

theorem numb_inj (a b : List UInt8) (hl : a.length = b.length) (h : numb a = numb b) : a = b := by
  rw [← low_numb a, ← low_numb b, h, hl]

theorem toI_toU (x : Int) (h1 : -9223372036854775808 ≤ x) (h2 : x < 9223372036854775808) : toI (toU x) = x := by
  unfold toI
  rw [← toU_eq, IntKind.wrap_u64]
  unfold wrap64
  omega

theorem frame_len {kind : Int} {key : ByteArray} {time value : Int} {tag : Nat} (_h : isItemB kind key value tag = true) :
    (frameBytes kind key time value tag).length = (itemBody kind key time value tag).length + 3 := by
  simp [frameBytes, low_length]

theorem frame_head {kind : Int} {key : ByteArray} {time value : Int} {tag : Nat} (h : isItemB kind key value tag = true) (more : List UInt8) :
    ((frameBytes kind key time value tag ++ more).getD 0 0).toNat = (itemBody kind key time value tag).length := by
  have := itemBody_len (time := time) h
  simp [frameBytes, UInt8.toNat_ofNat']
  omega

theorem frame_body {kind : Int} {key : ByteArray} {time value : Int} {tag : Nat} (h : isItemB kind key value tag = true) (more : List UInt8) :
    unfBody (frameBytes kind key time value tag ++ more) = itemBody kind key time value tag := by
  unfold unfBody
  rw [frame_head h]
  simp [frameBytes]

theorem frame_crc {kind : Int} {key : ByteArray} {time value : Int} {tag : Nat} (h : isItemB kind key value tag = true) (more : List UInt8) :
    unfCrc (frameBytes kind key time value tag ++ more) = true := by
  unfold unfCrc
  rw [frame_body h, frame_head h, decide_eq_true_eq]
  have hc := crc_lt (itemBody kind key time value tag)
  have e : ((frameBytes kind key time value tag ++ more).drop (1 + (itemBody kind key time value tag).length)).take 2 = low (crc (itemBody kind key time value tag)) 2 := by
    rw [Nat.add_comm]
    simp [frameBytes, low_length]
  rw [e, numb_low]
  omega

theorem cut_key (x y : UInt8) (K R : List UInt8) : (x :: y :: (K ++ R)).drop (2 + K.length) = R := by
  rw [Nat.add_comm]; simp
theorem cut_more (x y : UInt8) (K A R : List UInt8) (n : Nat) (hA : A.length = n) : (x :: y :: (K ++ (A ++ R))).drop (2 + K.length + n) = R := by
  rw [← List.drop_drop, cut_key, List.drop_left' hA]

theorem frame_item {kind : Int} {key : ByteArray} {time value : Int} {tag : Nat} (h : isItemB kind key value tag = true) (ht : tag < 4294967296)
    (t1 : -9223372036854775808 ≤ time) (t2 : time < 9223372036854775808) (v1 : -9223372036854775808 ≤ value) (v2 : value < 9223372036854775808) :
    itemOfB (itemBody kind key time value tag) = true ∧ itemOfV (itemBody kind key time value tag) = itemV kind key time value tag := by
  rcases isItemB_cases h with ⟨rfl, hk, rfl, htg⟩ | ⟨rfl, hk1, hk8⟩
  · have hB : itemOfB (itemBody 2 key time 0 tag) = true := by simp [itemOfB, itemBody, bodyMark, low_length]
    refine ⟨hB, ?_⟩
    unfold itemOfV
    rw [if_pos hB, if_neg (by simp [itemBody, bodyMark])]
    have hkk : key = ⟨#[]⟩ := by
      rw [← str_of key, toList_nil hk]; rfl
    have htg : tag = 0 := by omega
    subst hkk htg
    have := numb_low (toU time) 8
    have := toU_lt time
    simp only [markVal, itemV, itemBody, bodyMark, if_true, List.drop_succ_cons, List.drop_zero]
    rw [numb_low, Nat.mod_eq_of_lt (by omega), toI_toU time t1 t2]
    rfl
  · have hkl := keyLen key
    have hkm : (UInt8.ofNat key.data.toList.length).toNat = key.size := by rw [UInt8.toNat_ofNat', hkl]; omega
    have hE : isEvent (itemBody 1 key time value tag) = true := by
      have e1 : ((itemBody 1 key time value tag).getD 1 0) = UInt8.ofNat key.data.toList.length := by simp [itemBody, bodyEvent]
      have e2 : (itemBody 1 key time value tag).length = 22 + key.size := by simp [itemBody, bodyEvent, low_length]; omega
      unfold isEvent
      rw [e1, e2, hkm]
      simp
      omega
    have hB : itemOfB (itemBody 1 key time value tag) = true := by
      unfold itemOfB
      rw [if_pos (by simp [itemBody, bodyEvent])]
      exact hE
    refine ⟨hB, ?_⟩
    unfold itemOfV
    rw [if_pos hB, if_pos (by simp [itemBody, bodyEvent])]
    have e1 : ((itemBody 1 key time value tag).getD 1 0) = UInt8.ofNat key.data.toList.length := by simp [itemBody, bodyEvent]
    rw [e1, hkm]
    have d0 : itemBody 1 key time value tag = 1 :: UInt8.ofNat key.data.toList.length :: (key.data.toList ++ (low (toU time) 8 ++ (low (toU value) 8 ++ low tag 4))) := by
      simp [itemBody, bodyEvent]
    have f1 : ((itemBody 1 key time value tag).drop 2).take key.size = key.data.toList := by
      rw [d0, ← hkl]
      exact List.take_left' rfl
    have f2 : ((itemBody 1 key time value tag).drop (2 + key.size)).take 8 = low (toU time) 8 := by
      rw [d0, ← hkl, cut_key, List.take_left' (low_length _ _)]
    have f3 : ((itemBody 1 key time value tag).drop (10 + key.size)).take 8 = low (toU value) 8 := by
      rw [d0, ← hkl, show 10 + key.data.toList.length = 2 + key.data.toList.length + 8 from by omega, cut_more _ _ _ _ _ _ (low_length _ _), List.take_left' (low_length _ _)]
    have f4 : (itemBody 1 key time value tag).drop (18 + key.size) = low tag 4 := by
      rw [d0, ← hkl, show 18 + key.data.toList.length = 2 + key.data.toList.length + 8 + 8 from by omega, ← List.drop_drop, cut_more _ _ _ _ _ _ (low_length _ _), List.drop_left' (low_length _ _)]
    have := toU_lt time
    have := toU_lt value
    unfold eventVal
    rw [f1, f2, f3, f4, numb_low, numb_low, numb_low, Nat.mod_eq_of_lt (by omega), Nat.mod_eq_of_lt (by omega), Nat.mod_eq_of_lt (by omega), toI_toU time t1 t2, toI_toU value v1 v2, str_of]
    rfl

theorem unf_frame {kind : Int} {key : ByteArray} {time value : Int} {tag : Nat} (h : isItemB kind key value tag = true) (ht : tag < 4294967296)
    (t1 : -9223372036854775808 ≤ time) (t2 : time < 9223372036854775808) (v1 : -9223372036854775808 ≤ value) (v2 : value < 9223372036854775808) (more : List UInt8) :
    unfV (frameBytes kind key time value tag ++ more) = itemV kind key time value tag ∧ unfN (frameBytes kind key time value tag ++ more) = ((frameBytes kind key time value tag).length : Nat) ∧ unfE (frameBytes kind key time value tag ++ more) = 0 := by
  have hs : unfShort (frameBytes kind key time value tag ++ more) = false := by
    unfold unfShort
    rw [frame_head h, List.length_append, frame_len h]
    simp
  obtain ⟨h1, h2⟩ := frame_item (time := time) (value := value) h ht t1 t2 v1 v2
  have ho : unfOk (frameBytes kind key time value tag ++ more) = true := by
    unfold unfOk
    rw [frame_crc h, frame_body h, h1]; rfl
  unfold unfV unfN unfE
  rw [hs, ho, frame_body h, frame_head h, frame_len h]
  simp [h2]

theorem unf_fewer {kind : Int} {key : ByteArray} {time value : Int} {tag : Nat} (h : isItemB kind key value tag = true) (k : Nat) (hk : k < (frameBytes kind key time value tag).length) :
    unfShort ((frameBytes kind key time value tag).take k) = true := by
  unfold unfShort
  cases k with
  | zero => simp
  | succ k =>
    have e : ((frameBytes kind key time value tag).take (k + 1)).getD 0 0 = (frameBytes kind key time value tag ++ []).getD 0 0 := by
      simp [frameBytes]
    rw [e, frame_head h, decide_eq_true_eq, List.length_take]
    rw [frame_len h] at hk
    omega

/-- One byte behind the first turned. -/
theorem unf_turned {kind : Int} {key : ByteArray} {time value : Int} {tag : Nat} (h : isItemB kind key value tag = true) (more : List UInt8) (k : Nat) (hk0 : 1 ≤ k) (hk : k < (frameBytes kind key time value tag).length) (y : UInt8) (hy : y ≠ (frameBytes kind key time value tag)[k]) :
    unfShort ((frameBytes kind key time value tag ++ more).set k y) = false ∧ unfOk ((frameBytes kind key time value tag ++ more).set k y) = false := by
  have hl := frame_len (time := time) h
  have hg : ((frameBytes kind key time value tag ++ more).set k y).getD 0 0 = (frameBytes kind key time value tag ++ more).getD 0 0 := by
    simp [List.getD_eq_getElem?_getD, show ¬ k = 0 from by omega]
  refine ⟨?_, ?_⟩
  · unfold unfShort
    rw [hg, frame_head h, List.length_set, List.length_append, hl]
    simp
  · unfold unfOk
    rw [Bool.and_eq_false_iff]
    refine .inl ?_
    unfold unfCrc
    rw [hg, frame_head h, decide_eq_false_iff_not]
    have hc := crc_lt (itemBody kind key time value tag)
    have hbl := itemBody_len (time := time) h
    generalize hbd : itemBody kind key time value tag = bd at *
    have hF : frameBytes kind key time value tag = UInt8.ofNat bd.length :: (bd ++ low (crc bd) 2) := by rw [← hbd]; rfl
    by_cases hb : k ≤ bd.length
    · have hset : (frameBytes kind key time value tag ++ more).set k y = UInt8.ofNat bd.length :: (bd.set (k - 1) y ++ (low (crc bd) 2 ++ more)) := by
        rw [hF]
        obtain ⟨k, rfl⟩ : ∃ j, k = j + 1 := ⟨k - 1, by omega⟩
        simp only [List.cons_append, List.set_cons_succ, List.append_assoc, Nat.add_sub_cancel]
        rw [List.set_append_left _ _ (by omega)]
      have hub : unfBody ((frameBytes kind key time value tag ++ more).set k y) = bd.set (k - 1) y := by
        unfold unfBody
        rw [hg, frame_head h, hbd, hset]
        simp only [List.drop_succ_cons, List.drop_zero]
        rw [List.take_append_of_le_length (by simp), List.take_of_length_le (by simp)]
      rw [hub, hset]
      have e : ((UInt8.ofNat bd.length :: (bd.set (k - 1) y ++ (low (crc bd) 2 ++ more))).drop (1 + bd.length)).take 2 = low (crc bd) 2 := by
        rw [Nat.add_comm]
        simp [low_length]
      rw [e, numb_low]
      intro hh
      have h2 : crc bd % 256 ^ 2 = crc bd := Nat.mod_eq_of_lt (by omega)
      rw [h2] at hh
      refine crc_set_ne bd (k - 1) (by omega) y ?_ hh.symm
      intro hye
      apply hy
      rw [hye]
      simp only [hF]
      obtain ⟨k, rfl⟩ : ∃ j, k = j + 1 := ⟨k - 1, by omega⟩
      simp only [List.getElem_cons_succ, Nat.add_sub_cancel]
      rw [List.getElem_append_left (by omega)]
    · have hset : (frameBytes kind key time value tag ++ more).set k y = UInt8.ofNat bd.length :: (bd ++ ((low (crc bd) 2).set (k - 1 - bd.length) y ++ more)) := by
        rw [hF]
        obtain ⟨k, rfl⟩ : ∃ j, k = j + 1 := ⟨k - 1, by omega⟩
        simp only [List.cons_append, List.set_cons_succ, List.append_assoc, Nat.add_sub_cancel]
        rw [List.set_append_right _ _ (by omega), List.set_append_left _ _ (by rw [low_length]; omega)]
      have hub : unfBody ((frameBytes kind key time value tag ++ more).set k y) = bd := by
        unfold unfBody
        rw [hg, frame_head h, hbd, hset]
        simp
      rw [hub, hset]
      have e : ((UInt8.ofNat bd.length :: (bd ++ ((low (crc bd) 2).set (k - 1 - bd.length) y ++ more))).drop (1 + bd.length)).take 2 = (low (crc bd) 2).set (k - 1 - bd.length) y := by
        rw [Nat.add_comm]
        simp only [List.drop_succ_cons, List.drop_left]
        rw [List.take_append_of_le_length (by simp [low_length]), List.take_of_length_le (by simp [low_length])]
      rw [e]
      intro hh
      have hcl : numb (low (crc bd) 2) = crc bd := by rw [numb_low]; omega
      have hh := hh.trans hcl.symm
      have hse := numb_inj _ _ (by simp) hh
      apply hy
      have hi : k - 1 - bd.length < (low (crc bd) 2).length := by rw [low_length]; omega
      have : ((low (crc bd) 2).set (k - 1 - bd.length) y)[k - 1 - bd.length]'(by simpa using hi) = y := by simp
      have h3 := List.getElem_of_eq hse (by simpa using hi : k - 1 - bd.length < _)
      rw [this] at h3
      rw [h3]
      simp only [hF]
      obtain ⟨k, rfl⟩ : ∃ j, k = j + 1 := ⟨k - 1, by omega⟩
      simp only [List.getElem_cons_succ, Nat.add_sub_cancel]
      rw [List.getElem_append_right (by omega)]

end Go.Proofs.Ytcfngdnmpogaoaa
