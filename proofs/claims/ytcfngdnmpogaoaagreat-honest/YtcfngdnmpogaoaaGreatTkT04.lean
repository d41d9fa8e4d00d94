import Derived.Test.YtcfngdnmpogaoaaGreatTkT03
import Derived.Deep.RegionWith
import Derived.StillTailTactics
namespace Go.Proofs.YtcfngdnmpogaoaaGreat
open Go.RowKit
set_option maxHeartbeats 800000
def toU (x:Int):Nat:=(IntKind.u64.wrap x).toNat
theorem toU_eq (x:Int):IntKind.u64.wrap x = ((toU x:Nat):Int):=by
 have:0 <= IntKind.u64.wrap x:=by rw [IntKind.wrap_u64];omega
 unfold toU;omega
theorem toU_lt (x:Int):toU x < 18446744073709551616:=by
 have:IntKind.u64.wrap x < 18446744073709551616:=by rw [IntKind.wrap_u64];omega
 unfold toU;omega
theorem Row.lit (w:World) (e:TypeId) (xs:List Value) (g n:Nat) (hg:g = w.heap.size) (hn:xs.length = n) (hm:n <= maxLen) :
 Row (w.alloc (.cells xs.toArray e)) e 1 (.slice (some ⟨g,0,none⟩) n n) xs:=by
 subst hg
 refine .inr ⟨w.heap.size,0,n,n,xs.toArray,rfl,heap_alloc_new w _,Nat.le_refl _,hm,by simp [hn],by simpa using hn,fun j _=>by simp⟩
def bodyMark (time:Int):List UInt8:=2 :: low (toU time) 8
def bodyEvent (key:List UInt8) (time value:Int) (tag:Nat):List UInt8:=(((1 :: UInt8.ofNat key.length :: key) ++ low (toU time) 8) ++ low (toU value) 8) ++ low tag 4
theorem bodyMark_any (key:ByteArray) (time value tag:Int) (w:World) :
 Calls Tryz.prog 36 #[.agg #[.int .i64 2,.string key,.int .i64 time,.int .i64 value,.int .u32 tag]] w fun e w'=>
  ∃ v',e = .returned v' /\ Row w' 5 1 v' ((bodyMark time).map byteV) /\ (∀ g,v'.ownBlock = some g -> w.heap.size <= g) /\ Below w.heap.size w w':=by
 have hT:=toU_eq time
 have hb:∀ o o':Obj,Below w.heap.size w ((w.alloc o).alloc o'):=fun o o'=>((Below.refl _ w).alloc (Nat.le_refl _) o).alloc (by simp) o'
 have Hb:=hid hb
 clear hb
 go_enter Tryz.func36,Tryz.ntmps36
 go_wp2_with fail
 refine (appendLow_any _ [2] (toU time) 8 w.heap.size _ ?_ ?_ ?_ (toU_lt _) (by omega) (by decide)).mono ?_
 . exact Row.lit _ _ _ _ _ (by simp) rfl (by decide)
 . intro g hg;simp [Value.ownBlock] at hg;omega
 . simp;omega
 rintro e w' ⟨v',rfl,hr,hg,hbw⟩
 go_wp2
 go_ret
 exact ⟨v',rfl,hr,hg,(Hb.out _ _).trans hbw⟩
theorem byteCells_eq (s:ByteArray):byteCells s = s.data.toList.map byteV:=rfl
theorem bodyEvent_any (key:ByteArray) (time value:Int) (tag:Nat) (w:World) (h1:1 <= key.size) (h8:key.size <= 8) (ht:tag < 4294967296) :
 Calls Tryz.prog 36 #[.agg #[.int .i64 1,.string key,.int .i64 time,.int .i64 value,.int .u32 (tag:Int)]] w fun e w'=>
  ∃ v',e = .returned v' /\ Row w' 5 1 v' ((bodyEvent key.data.toList time value tag).map byteV) /\ (∀ g,v'.ownBlock = some g -> w.heap.size <= g) /\ Below w.heap.size w w':=by
 obtain ⟨i,hi,hz0,hz1,hz2⟩:=info_parts info5
 have hT:=toU_eq time
 have hV:=toU_eq value
 have hks:key.data.toList.length = key.size:=by rw [Array.length_toList];rfl
 have HK:=hid hks
 clear hks
 have hkz:(key.size:Int) % 256 = key.size:=by omega
 go_enter Tryz.func36,Tryz.ntmps36
 go_wp2_with (at_builtin;go_must (refine wpList_append _ rfl _ _ _ _ rfl 5 i (.int .u8 0) 1 1 Tryz.underlying30 hi hz0 hz1 hz2 rfl Nat.one_pos (.slice (some ⟨w.heap.size + 1,0,none⟩) 2 2) [.int .u8 1,.int .u8 (key.size:Int)] rfl ?hrow (.string key) key.size (byteCells key) rfl ?hsrc h1 ?h63 ?hby ?next))
 case hrow=>exact Row.lit _ _ _ _ _ (by simp) rfl (by decide)
 case hsrc=>exact Src.ofString _ Tryz.underlying9 key
 case h63=>simp only [maxLen,List.length_cons,List.length_nil];omega
 case hby=>simp only [List.length_cons,List.length_nil];omega
 intro v1 w1 ha
 have hb0:Below (w.heap.size + 1) (w.alloc (.cells #[.int .i64 1,.string key,.int .i64 time,.int .i64 value,.int .u32 (tag:Int)] 28)) w1:=
  ((Below.refl _ _).alloc (by simp) _).trans (ha.below (by intro g hg;simp [Value.ownBlock] at hg;omega) (by simp))
 have hg1:=ha.blk (B:=w.heap.size + 1) (by intro g hg;simp [Value.ownBlock] at hg;omega) (by simp)
 have hr1:=ha.row
 rw [byteCells_eq,show [Value.int .u8 1,Value.int .u8 (key.size:Int)] ++ key.data.toList.map byteV = (1 :: UInt8.ofNat key.data.toList.length :: key.data.toList).map byteV from by
  have e:(UInt8.ofNat key.size).toNat = key.size:=by simp [UInt8.toNat_ofNat'];omega
  rw [HK.out,List.map_cons,List.map_cons]
  simp [byteV,e]] at hr1
 clear ha
 have hbox:Hid (∀ W:World,Below (w.heap.size + 1) (w.alloc (.cells #[.int .i64 1,.string key,.int .i64 time,.int .i64 value,.int .u32 (tag:Int)] 28)) W ->
  W.cell? ⟨w.heap.size,2,none⟩ = some (.int .i64 time) /\ W.cell? ⟨w.heap.size,3,none⟩ = some (.int .i64 value) /\ W.cell? ⟨w.heap.size,4,none⟩ = some (.int .u32 (tag:Int)) /\ w.heap.size + 1 <= W.heap.size):=by
  intro W hW
  have hs:=hW.size
  refine ⟨?_,?_,?_,by simpa using hs⟩ <;> (rw [hW.cell (by simp)];simp)
 have hend:Hid (∀ W:World,Below (w.heap.size + 1) (w.alloc (.cells #[.int .i64 1,.string key,.int .i64 time,.int .i64 value,.int .u32 (tag:Int)] 28)) W -> Below w.heap.size w W):=by
  intro W hW
  exact ((Below.refl _ w).alloc (Nat.le_refl _) _).trans (hW.mono (by omega))
 generalize hW0:w.alloc (.cells #[.int .i64 1,.string key,.int .i64 time,.int .i64 value,.int .u32 (tag:Int)] 28) = W0 at *
 clear hW0
 obtain ⟨c2,c3,c4,hs1⟩:=hbox.out _ hb0
 go_wp2_with fail
 refine (appendLow_any v1 _ (toU time) 8 (w.heap.size + 1) _ hr1 hg1 hs1 (toU_lt _) (by omega) (by simp [HK.out];omega)).mono ?_
 clear c2 c3 c4
 rintro e w2 ⟨v2,rfl,hr2,hg2,hb2⟩
 have hb2:=hb0.trans hb2
 obtain ⟨c2,c3,c4,hs2⟩:=hbox.out _ hb2
 go_wp2_with fail
 refine (appendLow_any v2 _ (toU value) 8 (w.heap.size + 1) _ hr2 hg2 hs2 (toU_lt _) (by omega) (by simp [HK.out,low_length];omega)).mono ?_
 clear c2 c3 c4
 rintro e w3 ⟨v3,rfl,hr3,hg3,hb3⟩
 have hb3:=hb2.trans hb3
 obtain ⟨c2,c3,c4,hs3⟩:=hbox.out _ hb3
 go_wp2_with fail
 refine (appendLow_any v3 _ tag 4 (w.heap.size + 1) _ hr3 hg3 hs3 (by omega) (by omega) (by simp [HK.out,low_length];omega)).mono ?_
 rintro e w4 ⟨v4,rfl,hr4,hg4,hb4⟩
 go_wp2
 go_ret
 exact ⟨v4,rfl,hr4,fun g hg=>by have:=hg4 g hg;omega,hend.out _ (hb3.trans hb4)⟩
end Go.Proofs.YtcfngdnmpogaoaaGreat
namespace Go.Proofs.YtcfngdnmpogaoaaGreat
open Go.RowKit
set_option maxHeartbeats 800000
def itemBody (kind:Int) (key:ByteArray) (time value:Int) (tag:Nat):List UInt8:=if kind = 2 then bodyMark time else bodyEvent key.data.toList time value tag
def frameBytes (kind:Int) (key:ByteArray) (time value:Int) (tag:Nat):List UInt8:=
 UInt8.ofNat (itemBody kind key time value tag).length :: (itemBody kind key time value tag ++ low (crc (itemBody kind key time value tag)) 2)
theorem keyLen (key:ByteArray):key.data.toList.length = key.size:=by rw [Array.length_toList];rfl
theorem isItemB_cases {kind:Int} {key:ByteArray} {value tag:Int} (h:isItemB kind key value tag = true):(kind = 2 /\ key.toList = [] /\ value = 0 /\ tag = 0) \/ (kind = 1 /\ 1 <= key.size /\ key.size <= 8):=by
 unfold isItemB at h
 split at h
 . simp only [Bool.and_eq_true,decide_eq_true_eq,beq_iff_eq] at h
   exact .inl ⟨by assumption,h.1.1,h.1.2,h.2⟩
 . simp only [Bool.and_eq_true,decide_eq_true_eq,beq_iff_eq] at h
   exact .inr ⟨h.1.1,h.1.2,h.2⟩
theorem itemBody_len {kind:Int} {key:ByteArray} {time value:Int} {tag:Nat} (h:isItemB kind key value tag = true):9 <= (itemBody kind key time value tag).length /\ (itemBody kind key time value tag).length <= 30:=by
 rcases isItemB_cases h with ⟨rfl,_⟩ | ⟨rfl,h1,h8⟩
 . simp [itemBody,bodyMark,low_length]
 . have:=keyLen key
   simp [itemBody,bodyEvent,low_length];omega
theorem bodyOf_any (kind:Int) (key:ByteArray) (time value:Int) (tag:Nat) (w:World) (h:isItemB kind key value tag = true) (ht:tag < 4294967296) :
 Calls Tryz.prog 36 #[.agg #[.int .i64 kind,.string key,.int .i64 time,.int .i64 value,.int .u32 (tag:Int)]] w fun e w'=>
  ∃ v',e = .returned v' /\ Row w' 5 1 v' ((itemBody kind key time value tag).map byteV) /\ (∀ g,v'.ownBlock = some g -> w.heap.size <= g) /\ Below w.heap.size w w':=by
 rcases isItemB_cases h with ⟨rfl,_⟩ | ⟨rfl,h1,h8⟩
 . exact bodyMark_any key time value tag w
 . exact bodyEvent_any key time value tag w h1 h8 ht
theorem frame_no (kind:Int) (key:ByteArray) (time value tag:Int) (w:World) (hk:key.size <= 9223372036854775807) (h:isItemB kind key value tag = false) :
 Calls Tryz.prog 15 #[.agg #[.int .i64 kind,.string key,.int .i64 time,.int .i64 value,.int .u32 tag]] w fun e w'=>
  e = .returned (.tuple #[.slice none 0 0,.int .i64 2]) /\ Below w.heap.size w w':=by
 go_enter Tryz.func15,Tryz.ntmps15
 go_wp2_with fail
 refine (isItem_any kind key time value tag _ hk).mono ?_
 rintro e w1 ⟨rfl,hb⟩
 go_wp2
 go_ret2
 exact ⟨rfl,((Below.refl _ w).alloc (Nat.le_refl _) _).trans (hb.mono (by simp))⟩
theorem frame_yes (kind:Int) (key:ByteArray) (time value:Int) (tag:Nat) (w:World) (hk:key.size <= 9223372036854775807) (h:isItemB kind key value tag = true) (ht:tag < 4294967296) :
 Calls Tryz.prog 15 #[.agg #[.int .i64 kind,.string key,.int .i64 time,.int .i64 value,.int .u32 (tag:Int)]] w fun e w'=>
  ∃ v',e = .returned (.tuple #[v',.int .i64 0]) /\ Row w' 5 1 v' ((frameBytes kind key time value tag).map byteV) /\ (∀ g,v'.ownBlock = some g -> w.heap.size <= g) /\ Below w.heap.size w w':=by
 obtain ⟨i,hi,hz0,hz1,hz2⟩:=info_parts info5
 obtain ⟨hl9,hl30⟩:=itemBody_len (time:=time) h
 have hcl:Hid (crc (itemBody kind key time value tag) < 65536):=crc_lt _
 go_enter Tryz.func15,Tryz.ntmps15
 go_wp2_with fail
 refine (isItem_any kind key time value tag _ hk).mono ?_
 rintro e w1 ⟨rfl,hb1⟩
 have c0:∀ j,j < 5 -> w1.cell? ⟨w.heap.size,j,none⟩ = (w.alloc (.cells #[.int .i64 kind,.string key,.int .i64 time,.int .i64 value,.int .u32 (tag:Int)] 28)).cell? ⟨w.heap.size,j,none⟩:=fun j _=>hb1.cell (by simp)
 have d0:w1.cell? ⟨w.heap.size,0,none⟩ = some (.int .i64 kind):=by rw [c0 0 (by omega)];simp
 have d1:w1.cell? ⟨w.heap.size,1,none⟩ = some (.string key):=by rw [c0 1 (by omega)];simp
 have d2:w1.cell? ⟨w.heap.size,2,none⟩ = some (.int .i64 time):=by rw [c0 2 (by omega)];simp
 have d3:w1.cell? ⟨w.heap.size,3,none⟩ = some (.int .i64 value):=by rw [c0 3 (by omega)];simp
 have d4:w1.cell? ⟨w.heap.size,4,none⟩ = some (.int .u32 (tag:Int)):=by rw [c0 4 (by omega)];simp
 clear c0
 have hbw1:Below w.heap.size w w1:=((Below.refl _ w).alloc (Nat.le_refl _) _).trans (hb1.mono (by simp))
 have hs1:w.heap.size < w1.heap.size:=by have:=hb1.size;simp at this;omega
 clear hb1
 go_wp2_with fail
 refine (bodyOf_any kind key time value tag w1 h ht).mono ?_
 rintro e w2 ⟨v2,rfl,hr2,hg2,hb2⟩
 clear d0 d1 d2 d3 d4
 have HF:Hid (frameBytes kind key time value tag = UInt8.ofNat (itemBody kind key time value tag).length :: (itemBody kind key time value tag ++ low (crc (itemBody kind key time value tag)) 2)):=rfl
 generalize itemBody kind key time value tag = bd at *
 obtain ⟨g2,off2,n2,cap2,rfl,hn2,hc2⟩:=hr2.shape (by intro hh;have:=congrArg List.length hh;simp at this;simp [this] at hl9)
 obtain ⟨hby2,rfl⟩:=hr2.bytes
 have hg2':=hg2 g2 rfl
 have hbw2:=hbw1.trans (hb2.mono (by omega))
 have hs2:=hb2.size
 have hlz:(bd.length:Int) % 256 = bd.length:=by omega
 have hg22:=(hr2.blk_lt (k:=g2) rfl).1
 clear hb2 hbw1 hg2
 go_wp2_with (at_builtin;go_must (refine wpList_append _ rfl _ _ _ _ rfl 5 i (.int .u8 0) 1 1 Tryz.underlying30 hi hz0 hz1 hz2 rfl Nat.one_pos (.slice (some ⟨w2.heap.size,0,none⟩) 1 1) [.int .u8 (bd.length:Int)] rfl ?hrow (.slice (some ⟨g2,off2,none⟩) bd.length cap2) bd.length (bd.map byteV) rfl ?hsrc ?hpos ?h63 ?hby ?next))
 case hrow=>exact Row.lit _ _ _ _ _ rfl rfl (by decide)
 case hpos=>omega
 case hsrc=>
  refine Src.ofSlice _ Tryz.underlying30 ⟨g2,off2,none⟩ bd.length cap2 _ (by simp) (fun j u hu=>?_) (fun u hu=>?_)
  . rw [Addr.add_lit]
    have hj:j < bd.length:=by have:=(List.getElem?_eq_some_iff.1 hu).1;simpa using this
    rw [(hr2.alloc _).cell j (by omega)];exact hu
  . obtain ⟨_,_,rfl⟩:=List.mem_map.1 hu;rfl
 case h63=>simp only [maxLen,List.length_cons,List.length_nil];omega
 case hby=>simp only [List.length_cons,List.length_nil];omega
 intro v3 w3 ha
 have hb3:Below w2.heap.size w2 w3:=((Below.refl _ _).alloc (Nat.le_refl _) _).trans (ha.below (by intro g hg;simp [Value.ownBlock] at hg;omega) (by simp))
 have hg3:=ha.blk (B:=w2.heap.size) (by intro g hg;simp [Value.ownBlock] at hg;omega) (by simp)
 have hr3:=ha.row
 rw [show [Value.int .u8 (bd.length:Int)] ++ bd.map byteV = (UInt8.ofNat bd.length :: bd).map byteV from by
  have e:(UInt8.ofNat bd.length).toNat = bd.length:=by simp [UInt8.toNat_ofNat'];omega
  simp [byteV,e]] at hr3
 clear ha
 have hby3:Bytes w3 g2 off2 bd:=fun j hj=>by rw [hb3.cell (by exact hg22)];exact hby2 j hj
 go_wp2_with fail
 refine (check_any g2 off2 cap2 bd w3 (by omega) hby3).mono ?_
 rintro e w4 ⟨rfl,rfl⟩
 have hs3:=hb3.size
 generalize hcx:crc bd = C at *
 clear hcx
 have hcl':=hcl.out
 go_wp2_with fail
 refine (appendLow_any v3 _ C 2 w2.heap.size _ hr3 hg3 hs3 (by omega) (by omega) (by simp;omega)).mono ?_
 rintro e w5 ⟨v5,rfl,hr5,hg5,hb5⟩
 go_wp2
 go_ret2
 refine ⟨v5,rfl,by rw [HF.out];exact hr5,fun g hg=>?_,hbw2.trans ((hb3.trans hb5).mono (by omega))⟩
 have:=hg5 g hg;omega
theorem rframe_no (kind:Int) (key:ByteArray) (time value tag:Int) (w:World) (hk:key.size <= 9223372036854775807) (h:isItemB kind key value tag = false) :
 Calls Tryz.prog 31 #[.agg #[.int .i64 kind,.string key,.int .i64 time,.int .i64 value,.int .u32 tag]] w fun e w'=>
  e = .returned (.tuple #[.string ⟨#[]⟩,.int .i64 2]) /\ Below w.heap.size w w':=by
 go_enter Tryz.func31,Tryz.ntmps31
 go_wp2_with fail
 refine (rIsItem_any kind key time value tag _ hk).mono ?_
 rintro e w1 ⟨rfl,hb⟩
 go_wp2
 go_ret2
 exact ⟨rfl,((Below.refl _ w).alloc (Nat.le_refl _) _).trans (hb.mono (by simp))⟩
end Go.Proofs.YtcfngdnmpogaoaaGreat
namespace Go.Proofs.YtcfngdnmpogaoaaGreat
open Go.RowKit
variable {b off:Nat} {l:List UInt8} {w:World}
set_option maxHeartbeats 1600000
set_option maxRecDepth 20000
def toI (x:Nat):Int:=wrap64 (x:Int)
def itemNone:Value:=.agg #[.int .i64 0,.string ⟨#[]⟩,.int .i64 0,.int .i64 0,.int .u32 0]
def markVal (body:List UInt8):Value:=.agg #[.int .i64 2,.string ⟨#[]⟩,.int .i64 (toI (numb (body.drop 1))),.int .i64 0,.int .u32 0]
theorem Bytes.drop (h:Bytes w b off l) (k:Nat):Bytes w b (off + k) (l.drop k):=by
 intro j hj
 have hj':k + j < l.length:=by simp at hj;omega
 have:=h (k + j) hj'
 rw [Nat.add_assoc,this]
 simp
theorem Bytes.take (h:Bytes w b off l) (k:Nat):Bytes w b off (l.take k):=by
 intro j hj
 have hj':j < l.length:=by simp at hj;omega
 rw [h j hj']
 simp
theorem Bytes.below {w':World} {B:Nat} (h:Bytes w b off l) (hb:Below B w w') (hB:b < B):Bytes w' b off l:=fun j hj=>by
 rw [hb.cell (by exact hB)];exact h j hj
theorem Bytes.lt (h:Bytes w b off l) (hl:0 < l.length):b < w.heap.size:=World.block_lt_of_cell? w ⟨b,off + 0,none⟩ (h 0 hl)
theorem Bytes.alloc (h:Bytes w b off l) (o:Obj):Bytes (w.alloc o) b off l:=by
 intro j hj
 have hlt:=h.lt (by omega)
 exact (Bytes.below h ((Below.refl _ w).alloc (Nat.le_refl _) o) hlt) j hj
theorem readLow_n (b off cap n:Nat) (l:List UInt8) (w:World) (hn:n = l.length) (hl:l.length <= 8) (hc:Bytes w b off l) :
 Calls Tryz.prog 39 #[.slice (some ⟨b,off,none⟩) n cap] w fun e w'=>e = .returned (.int .u64 (numb l:Nat)) /\ w' = w:=by
 subst hn;exact readLow_any b off cap l w hl hc
theorem markOf_any (b off cap:Nat) (body:List UInt8) (w:World) (hc:Bytes w b off body) (_hl:body.length <= 1000) (hcap:body.length < cap) :
 Calls Tryz.prog 66 #[.slice (some ⟨b,off,none⟩) body.length cap] w fun e w'=>
  e = .returned (.tuple #[if body.length = 9 then markVal body else itemNone,.bool (decide (body.length = 9))]) /\ Below w.heap.size w w':=by
 by_cases h9:body.length = 9
 . have hdl:Hid ((body.drop 1).length = 8):=by show _ = _;simp [h9]
   have hdb:=(hc.drop 1).alloc
   have HM:Hid (markVal body = .agg #[.int .i64 2,.string ⟨#[]⟩,.int .i64 (wrap64 (numb (body.drop 1):Nat)),.int .i64 0,.int .u32 0]):=rfl
   generalize body.drop 1 = d at *
   rw [if_pos h9,decide_eq_true h9]
   go_enter Tryz.func66,Tryz.ntmps66
   go_wp2_with fail
   refine (readLow_n b (off + 1) (cap - 1) 8 d _ hdl.out.symm (by rw [hdl.out];omega) (hdb _)).mono ?_
   rintro e w' ⟨rfl,rfl⟩
   go_wp2
   exact bodyPost_ret (v:=.tuple #[.agg #[.int .i64 2,.string ⟨#[]⟩,.int .i64 (wrap64 (numb d:Nat)),.int .i64 0,.int .u32 0],.bool true]) (by simp [results,Tryz.results66,go_sem]) rfl ⟨by rw [HM.out],(Below.refl _ _).alloc (Nat.le_refl _) _⟩
 . rw [if_neg h9,decide_eq_false h9]
   go_enter Tryz.func66,Tryz.ntmps66
   go_wp2
   exact bodyPost_ret (v:=.tuple #[itemNone,.bool false]) (by simp [results,Tryz.results66,go_sem,itemNone]) rfl ⟨rfl,(Below.refl _ _).alloc (Nat.le_refl _) _⟩
def isEvent (body:List UInt8):Bool:=decide (2 <= body.length) && (decide (1 <= (body.getD 1 0).toNat) && (decide ((body.getD 1 0).toNat <= 8) && decide (body.length = 22 + (body.getD 1 0).toNat)))
def eventVal (body:List UInt8) (k:Nat):Value:=.agg #[.int .i64 1,.string (str ((body.drop 2).take k)),.int .i64 (toI (numb ((body.drop (2 + k)).take 8))),.int .i64 (toI (numb ((body.drop (10 + k)).take 8))),.int .u32 (numb (body.drop (18 + k)):Nat)]
theorem Bytes.at (h:Bytes w b off l) (j:Nat) (hj:j < l.length):w.cell? ⟨b,off + j,none⟩ = some (.int .u8 ((l.getD j 0).toNat:Int)):=by
 rw [h j hj];simp [List.getD,hj]
theorem readLow_at (b off off' n cap:Nat) (body:List UInt8) (w:World) (hc:Bytes w b off body) (h1:off <= off') (h2:off' - off + n <= body.length) (hn:n <= 8) :
 Calls Tryz.prog 39 #[.slice (some ⟨b,off',none⟩) n cap] w fun e w'=>e = .returned (.int .u64 (numb ((body.drop (off' - off)).take n):Nat)) /\ w' = w:=by
 have h:=(hc.drop (off' - off)).take n
 rw [show off + (off' - off) = off' from by omega] at h
 exact readLow_n b off' cap n _ w (by simp;omega) (by simp;omega) h
theorem conv_at (b off off' n cap:Nat) (body:List UInt8) (w:World) (hc:Bytes w b off body) (h1:off <= off') (h2:off' - off + n <= body.length) :
 (convert 30 9 (.slice (some ⟨b,off',none⟩) n cap)).run Tryz.prog w = .ok (.string (str ((body.drop (off' - off)).take n))) w:=by
 have h:=(hc.drop (off' - off)).take n
 rw [show off + (off' - off) = off' from by omega] at h
 have hn:((body.drop (off' - off)).take n).length = n:=by simp;omega
 have:=run_convert_bytes_back (P:=Tryz.prog) w 30 9 5 ⟨b,off',none⟩ cap ((body.drop (off' - off)).take n) Tryz.underlying30 Tryz.underlying5 Tryz.underlying9 (fun j hj=>by
  rw [Addr.add_lit];exact h j hj)
 rw [hn] at this
 exact this
theorem eventOf_yes (b off cap:Nat) (body:List UInt8) (k:Nat) (w:World) (hc:Bytes w b off body) (h1:1 <= k) (h8:k <= 8) (hl0:body.length = 22 + k) (hk:(body.getD 1 0).toNat = k) (hcap:22 + k < cap) :
 Calls Tryz.prog 65 #[.slice (some ⟨b,off,none⟩) (22 + k) cap] w fun e w'=>
  e = .returned (.tuple #[eventVal body k,.bool true]) /\ Below w.heap.size w w':=by
 have hlt:=hc.lt (by omega)
 have hc1:∀ o,(w.alloc o).cell? ⟨b,off + 1,none⟩ = some (.int .u8 (k:Int)):=fun o=>by
  rw [(hc.alloc o).at 1 (by omega),hk]
 have hl:=hid hl0
 clear hl0 hk
 have hne:((22:Int) + (k:Int) != 2 + (k:Int) + 20) = false:=by simp;omega
 go_enter Tryz.func65,Tryz.ntmps65
 go_wp2_with fail
 go_quiet (fail)
 go_wp2_with fail
 rw [show 2 + k - 2 = k from by omega,show 22 + k - (2 + k) = 20 from by omega]
 have hby:Bytes ((w.alloc (.cells #[.int .i64 0,.string ⟨#[]⟩,.int .i64 0,.int .i64 0,.int .u32 0] 28)).drewN nq) b off body:=by
  intro j hj;have:=hc.alloc (.cells #[.int .i64 0,.string ⟨#[]⟩,.int .i64 0,.int .i64 0,.int .u32 0] 28) j hj;simpa using this
 have Hb:Hid (Below w.heap.size w ((w.alloc (.cells #[.int .i64 0,.string ⟨#[]⟩,.int .i64 0,.int .i64 0,.int .u32 0] 28)).drewN nq)):=by
  exact below_drewN ((Below.refl _ w).alloc (Nat.le_refl _) _) nq
 have c0:((w.alloc (.cells #[.int .i64 0,.string ⟨#[]⟩,.int .i64 0,.int .i64 0,.int .u32 0] 28)).drewN nq).cell? ⟨w.heap.size,0,none⟩ = some (.int .i64 0):=by simp
 have c1:((w.alloc (.cells #[.int .i64 0,.string ⟨#[]⟩,.int .i64 0,.int .i64 0,.int .u32 0] 28)).drewN nq).cell? ⟨w.heap.size,1,none⟩ = some (.string ⟨#[]⟩):=by simp
 have c2:((w.alloc (.cells #[.int .i64 0,.string ⟨#[]⟩,.int .i64 0,.int .i64 0,.int .u32 0] 28)).drewN nq).cell? ⟨w.heap.size,2,none⟩ = some (.int .i64 0):=by simp
 have c3:((w.alloc (.cells #[.int .i64 0,.string ⟨#[]⟩,.int .i64 0,.int .i64 0,.int .u32 0] 28)).drewN nq).cell? ⟨w.heap.size,3,none⟩ = some (.int .i64 0):=by simp
 have c4:((w.alloc (.cells #[.int .i64 0,.string ⟨#[]⟩,.int .i64 0,.int .i64 0,.int .u32 0] 28)).drewN nq).cell? ⟨w.heap.size,4,none⟩ = some (.int .u32 0):=by simp
 have fz:∀ j,((w.alloc (.cells #[.int .i64 0,.string ⟨#[]⟩,.int .i64 0,.int .i64 0,.int .u32 0] 28)).drewN nq).frozen? ⟨w.heap.size,j,none⟩ = false:=by intro j;simp
 generalize (w.alloc (.cells #[.int .i64 0,.string ⟨#[]⟩,.int .i64 0,.int .i64 0,.int .u32 0] 28)).drewN nq = W1 at *
 clear hc hc1 hne
 refine wp_region_still_tail 15 (by kernel_rfl) (by kernel_rfl) ?_
 simp only [List.take_succ_cons,List.take_zero,List.drop_succ_cons,List.drop_zero]
 change wpStill Tryz.prog _ W1.drew (fun a'=>wpList Tryz.prog _ _ _ a' W1.drew) _ _
 have c0:W1.drew.cell? ⟨w.heap.size,0,none⟩ = some (.int .i64 0):=c0
 have c1:W1.drew.cell? ⟨w.heap.size,1,none⟩ = some (.string ⟨#[]⟩):=c1
 have c2:W1.drew.cell? ⟨w.heap.size,2,none⟩ = some (.int .i64 0):=c2
 have c3:W1.drew.cell? ⟨w.heap.size,3,none⟩ = some (.int .i64 0):=c3
 have c4:W1.drew.cell? ⟨w.heap.size,4,none⟩ = some (.int .u32 0):=c4
 have fz:∀ j,W1.drew.frozen? ⟨w.heap.size,j,none⟩ = false:=fz
 have hby:Bytes W1.drew b off body:=hby
 have Hb:=hid (Below.drew Hb.out)
 generalize W1.drew = W2 at *
 have hcv:=conv_at b off (off + 2) k (cap - 2) body W2 hby (by omega) (by rw [hl.out];omega)
 have hl22:=hl.out
 have hcc:20 < cap - (2 + k):=by omega
 generalize cap - (2 + k) = cc at *
 have b1:(8:Int) <= (cc:Int):=by omega
 have b2:(16:Int) <= (cc:Int):=by omega
 have b3:¬ cc = 16:=by omega
 have b4:¬ cc = 8:=by omega
 have q1:=fun cap'=>readLow_at b off (off + (2 + k)) 8 cap' body W2 hby (by omega) (by omega) (by omega)
 have q2:=fun cap'=>readLow_at b off (off + (2 + k) + 8) 8 cap' body W2 hby (by omega) (by omega) (by omega)
 have q3:=fun cap'=>readLow_at b off (off + (2 + k) + 16) 4 cap' body W2 hby (by omega) (by omega) (by omega)
 have hA3:numb ((body.drop (off + (2 + k) + 16 - off)).take 4) < 4294967296:=by
  have h:=numb_lt ((body.drop (off + (2 + k) + 16 - off)).take 4)
  have h2:256 ^ ((body.drop (off + (2 + k) + 16 - off)).take 4).length <= 256 ^ 4:=Nat.pow_le_pow_right (by decide) (by simp;omega)
  omega
 have HE:Hid (eventVal body k = .agg #[.int .i64 1,.string (str ((body.drop (off + 2 - off)).take k)),.int .i64 (toI (numb ((body.drop (off + (2 + k) - off)).take 8))),.int .i64 (toI (numb ((body.drop (off + (2 + k) + 8 - off)).take 8))),.int .u32 (numb ((body.drop (off + (2 + k) + 16 - off)).take 4):Nat)]):=by
  show eventVal body k = _
  have t4:(body.drop (18 + k)).take 4 = body.drop (18 + k):=List.take_of_length_le (by simp;omega)
  rw [eventVal,show off + 2 - off = 2 from by omega,show off + (2 + k) - off = 2 + k from by omega,show off + (2 + k) + 8 - off = 10 + k from by omega,show off + (2 + k) + 16 - off = 18 + k from by omega,t4]
 generalize numb ((body.drop (off + (2 + k) - off)).take 8) = A1 at *
 generalize numb ((body.drop (off + (2 + k) + 8 - off)).take 8) = A2 at *
 generalize numb ((body.drop (off + (2 + k) + 16 - off)).take 4) = A3 at *
 generalize str ((body.drop (off + 2 - off)).take k) = S at *
 have hw3:IntKind.u32.wrap (A3:Int) = A3:=by rw [IntKind.wrap_u32];omega
 have hw1:IntKind.i64.wrap (A1:Int) = toI A1:=IntWalk.i64_left _
 have hw2:IntKind.i64.wrap (A2:Int) = toI A2:=IntWalk.i64_left _
 generalize toI A1 = T1 at *
 generalize toI A2 = T2 at *
 have Hq1:Hid _:=q1
 have Hq2:Hid _:=q2
 have Hq3:Hid _:=q3
 clear hl22 q1 q2 q3 hA3 hby hl
 repeat still_step
 still_call (Hq1.out _)
 repeat still_step
 still_call (Hq2.out _)
 repeat still_step
 still_call (Hq3.out _)
 repeat still_step
 try refine wpStill_nil ?_
 go_wp2
 refine bodyPost_ret (v:=.tuple #[.agg #[.int .i64 1,.string S,.int .i64 T1,.int .i64 T2,.int .u32 (A3:Nat)],.bool true]) ?_ rfl ⟨by rw [HE.out],?_⟩
 . simp [results,Tryz.results65,go_sem,c0,c1,c2,c3,c4]
 . exact ((((Hb.out.setCell (Nat.le_refl _) _).setCell (Nat.le_refl _) _).setCell (Nat.le_refl _) _).setCell (Nat.le_refl _) _).setCell (Nat.le_refl _) _
theorem isEvent_true {body:List UInt8} (h:isEvent body = true):1 <= (body.getD 1 0).toNat /\ (body.getD 1 0).toNat <= 8 /\ body.length = 22 + (body.getD 1 0).toNat:=by
 simp only [isEvent,Bool.and_eq_true,decide_eq_true_eq] at h
 exact ⟨h.2.1,h.2.2.1,h.2.2.2⟩
theorem eventOf_no (b off cap:Nat) (body:List UInt8) (w:World) (hc:Bytes w b off body) (hl:body.length <= 1000) (he:isEvent body = false) :
 Calls Tryz.prog 65 #[.slice (some ⟨b,off,none⟩) body.length cap] w fun e w'=>
  e = .returned (.tuple #[itemNone,.bool false]) /\ Below w.heap.size w w':=by
 by_cases h2:2 <= body.length
 . have hlt:=hc.lt (by omega)
   have hc1:∀ o,(w.alloc o).cell? ⟨b,off + 1,none⟩ = some (.int .u8 ((body.getD 1 0).toNat:Int)):=fun o=>(hc.alloc o).at 1 (by omega)
   have hkl:=(body.getD 1 0).toNat_lt
   have HE:Hid (1 <= (body.getD 1 0).toNat -> (body.getD 1 0).toNat <= 8 -> body.length ≠ 22 + (body.getD 1 0).toNat):=by
    intro q1 q2 q3
    simp [isEvent,h2] at he
    exact he (by simpa using q1) (by simpa using q2) (by simpa using q3)
   generalize (body.getD 1 0).toNat = k at *
   generalize hn:body.length = n at *
   clear hn he
   by_cases h1:1 <= k
   . by_cases h8:k <= 8
     . have hne:=HE.out h1 h8
       have hne':((n:Int) != 2 + (k:Int) + 20) = true:=by simp;omega
       clear hne
       go_enter Tryz.func65,Tryz.ntmps65
       go_wp2
       exact bodyPost_ret (v:=.tuple #[itemNone,.bool false]) (by simp [results,Tryz.results65,go_sem,itemNone]) rfl ⟨rfl,(Below.refl _ _).alloc (Nat.le_refl _) _⟩
     . go_enter Tryz.func65,Tryz.ntmps65
       go_wp2
       exact bodyPost_ret (v:=.tuple #[itemNone,.bool false]) (by simp [results,Tryz.results65,go_sem,itemNone]) rfl ⟨rfl,(Below.refl _ _).alloc (Nat.le_refl _) _⟩
   . go_enter Tryz.func65,Tryz.ntmps65
     go_wp2
     exact bodyPost_ret (v:=.tuple #[itemNone,.bool false]) (by simp [results,Tryz.results65,go_sem,itemNone]) rfl ⟨rfl,(Below.refl _ _).alloc (Nat.le_refl _) _⟩
 . go_enter Tryz.func65,Tryz.ntmps65
   go_wp2
   exact bodyPost_ret (v:=.tuple #[itemNone,.bool false]) (by simp [results,Tryz.results65,go_sem,itemNone]) rfl ⟨rfl,(Below.refl _ _).alloc (Nat.le_refl _) _⟩
end Go.Proofs.YtcfngdnmpogaoaaGreat
