import Derived.Test.YtcfngdnmpogaoaaGreatTkT04
import Derived.Deep.RegionWith
namespace Go.Proofs.YtcfngdnmpogaoaaGreat
open Go.RowKit
set_option maxHeartbeats 1600000
def itemOfB (body:List UInt8):Bool:=if body.getD 0 0 = 1 then isEvent body else if body.getD 0 0 = 2 then decide (body.length = 9) else false
def itemOfV (body:List UInt8):Value:=if itemOfB body then (if body.getD 0 0 = 1 then eventVal body (body.getD 1 0).toNat else markVal body) else itemNone
def evV (body:List UInt8):Value:=if isEvent body then eventVal body (body.getD 1 0).toNat else itemNone
def mkV (body:List UInt8):Value:=if body.length = 9 then markVal body else itemNone
def mkB (body:List UInt8):Bool:=decide (body.length = 9)
def itemCells (v:Value):Prop:=∃ a b c d e,v = .agg #[.int .i64 a,.string b,.int .i64 c,.int .i64 d,.int .u32 e]
theorem itemNone_cells:itemCells itemNone:=⟨_,_,_,_,_,rfl⟩
theorem markVal_cells (l:List UInt8):itemCells (markVal l):=⟨_,_,_,_,_,rfl⟩
theorem eventVal_cells (l:List UInt8) (k:Nat):itemCells (eventVal l k):=⟨_,_,_,_,_,rfl⟩
theorem eventOf_any (b off cap:Nat) (body:List UInt8) (w:World) (hc:Bytes w b off body) (hl:body.length <= 1000) (hcap:body.length < cap) :
 Calls Tryz.prog 65 #[.slice (some ⟨b,off,none⟩) body.length cap] w fun e w'=>
  (∃ v,itemCells v /\ v = evV body /\ e = .returned (.tuple #[v,.bool (isEvent body)])) /\ Below w.heap.size w w':=by
 cases he:isEvent body with
 | false=>exact (eventOf_no b off cap body w hc hl he).mono fun e w' ⟨h1,h2⟩=>⟨⟨_,itemNone_cells,by rw [evV,he];rfl,h1⟩,h2⟩
 | true=>
   obtain ⟨h1,h8,hl'⟩:=isEvent_true he
   have h:=eventOf_yes b off cap body (body.getD 1 0).toNat w hc h1 h8 hl' rfl (by omega)
   rw [<- hl'] at h
   exact h.mono fun e w' ⟨h1,h2⟩=>⟨⟨_,eventVal_cells _ _,by rw [evV,he];rfl,h1⟩,h2⟩
theorem toNat_eq (x:UInt8) (n:Nat) (h:n < 256):((x.toNat:Int) == (n:Int)) = decide (x = UInt8.ofNat n):=by
 rw [Bool.eq_iff_iff]
 simp only [beq_iff_eq,decide_eq_true_eq]
 constructor
 . intro h'
   apply UInt8.toNat_inj.1
   simp [UInt8.toNat_ofNat'];omega
 . intro h'
   subst h'
   simp [UInt8.toNat_ofNat'];omega
theorem item_box {w w':World} {x0 x1 x2 x3 x4:Value} {t:TypeId} {B:Nat} (hb:Below B (w.alloc (.cells #[x0,x1,x2,x3,x4] t)) w') (hB:w.heap.size < B) :
 w'.cell? ⟨w.heap.size,0,none⟩ = some x0 /\ w'.cell? ⟨w.heap.size,1,none⟩ = some x1 /\ w'.cell? ⟨w.heap.size,2,none⟩ = some x2 /\ w'.cell? ⟨w.heap.size,3,none⟩ = some x3 /\ w'.cell? ⟨w.heap.size,4,none⟩ = some x4 /\
 (∀ j,w'.frozen? ⟨w.heap.size,j,none⟩ = false) /\ w.heap.size < w'.heap.size /\ Below w.heap.size w w':=by
 have hs:=hb.size
 refine ⟨?_,?_,?_,?_,?_,fun j=>?_,?_,((Below.refl _ w).alloc (Nat.le_refl _) _).trans (hb.mono (by omega))⟩
 . rw [hb.cell (by exact hB)];simp
 . rw [hb.cell (by exact hB)];simp
 . rw [hb.cell (by exact hB)];simp
 . rw [hb.cell (by exact hB)];simp
 . rw [hb.cell (by exact hB)];simp
 . rw [hb.frozen (by exact hB)];simp
 . simp at hs;omega
theorem item_put {w w':World} {x0 x1 x2 x3 x4:Value} (hb:Below w.heap.size w w'):Below w.heap.size w (((((w'.setCell ⟨w.heap.size,0,none⟩ x0).setCell ⟨w.heap.size,1,none⟩ x1).setCell ⟨w.heap.size,2,none⟩ x2).setCell ⟨w.heap.size,3,none⟩ x3).setCell ⟨w.heap.size,4,none⟩ x4):=
 ((((hb.setCell (Nat.le_refl _) _).setCell (Nat.le_refl _) _).setCell (Nat.le_refl _) _).setCell (Nat.le_refl _) _).setCell (Nat.le_refl _) _
theorem itemOf_event (b off cap:Nat) (body:List UInt8) (w:World) (hc:Bytes w b off body) (hl:body.length <= 1000) (hcap:body.length < cap) (h0:0 < body.length) (h1:body.getD 0 0 = 1) :
 Calls Tryz.prog 40 #[.slice (some ⟨b,off,none⟩) body.length cap] w fun e w'=>
  (∃ v,itemCells v /\ v = evV body /\ e = .returned (.tuple #[v,.bool (isEvent body)])) /\ Below w.heap.size w w':=by
 have hlt:=hc.lt h0
 have hc0:∀ o,(w.alloc o).cell? ⟨b,off,none⟩ = some (.int .u8 1):=fun o=>by
  have:=(hc.alloc o).at 0 h0
  rw [h1] at this;exact this
 have hca:=hc.alloc
 have Hca:=hid hca
 clear hca h1
 go_enter Tryz.func40,Tryz.ntmps40
 go_wp2_with fail
 refine (eventOf_any b off cap body _ (Hca.out _) hl hcap).mono ?_
 rintro e w' ⟨⟨v,⟨x1,x2,x3,x4,x5,rfl⟩,hv,rfl⟩,hb⟩
 have Hv:Hid _:=hv
 clear hv
 obtain ⟨c0,c1,c2,c3,c4,fz,hs,hbw⟩:=item_box hb (by simp)
 clear hb
 go_wp2
 refine bodyPost_ret (v:=.tuple #[.agg #[.int .i64 x1,.string x2,.int .i64 x3,.int .i64 x4,.int .u32 x5],.bool (isEvent body)]) ?_ rfl ⟨⟨_,⟨_,_,_,_,_,rfl⟩,Hv.out,rfl⟩,item_put hbw⟩
 simp [results,Tryz.results40,go_sem,c0,c1,c2,c3,c4]
theorem itemOf_mark (b off cap:Nat) (body:List UInt8) (w:World) (hc:Bytes w b off body) (hl:body.length <= 1000) (hcap:body.length < cap) (h0:0 < body.length) (h1:body.getD 0 0 = 2) :
 Calls Tryz.prog 40 #[.slice (some ⟨b,off,none⟩) body.length cap] w fun e w'=>
  (∃ v,itemCells v /\ v = mkV body /\ e = .returned (.tuple #[v,.bool (mkB body)])) /\ Below w.heap.size w w':=by
 have hlt:=hc.lt h0
 have hc0:∀ o,(w.alloc o).cell? ⟨b,off,none⟩ = some (.int .u8 2):=fun o=>by
  have:=(hc.alloc o).at 0 h0
  rw [h1] at this;exact this
 have hca:=hc.alloc
 have Hca:=hid hca
 clear hca h1
 have HM:Hid ((if body.length = 9 then markVal body else itemNone) = mkV body):=rfl
 have HB:Hid (decide (body.length = 9) = mkB body):=rfl
 have hvv:itemCells (mkV body):=by
  unfold mkV
  split
  . exact markVal_cells _
  . exact itemNone_cells
 go_enter Tryz.func40,Tryz.ntmps40
 go_wp2_with fail
 refine (markOf_any b off cap body _ (Hca.out _) hl hcap).mono ?_
 rintro e w' ⟨rfl,hb⟩
 rw [HM.out,HB.out]
 obtain ⟨x1,x2,x3,x4,x5,hv⟩:=hvv
 rw [hv]
 clear HM HB
 have Hv:Hid _:=hv
 clear hv
 obtain ⟨c0,c1,c2,c3,c4,fz,hs,hbw⟩:=item_box hb (by simp)
 clear hb
 go_wp2
 refine bodyPost_ret (v:=.tuple #[.agg #[.int .i64 x1,.string x2,.int .i64 x3,.int .i64 x4,.int .u32 x5],.bool (mkB body)]) ?_ rfl ⟨⟨_,⟨_,_,_,_,_,rfl⟩,Hv.out.symm,rfl⟩,item_put hbw⟩
 simp [results,Tryz.results40,go_sem,c0,c1,c2,c3,c4]
theorem itemOf_other (b off cap:Nat) (body:List UInt8) (w:World) (hc:Bytes w b off body) (hl:body.length <= 1000) (h0:0 < body.length) (h1:¬ body.getD 0 0 = 1) (h2:¬ body.getD 0 0 = 2) :
 Calls Tryz.prog 40 #[.slice (some ⟨b,off,none⟩) body.length cap] w fun e w'=>
  e = .returned (.tuple #[itemNone,.bool false]) /\ Below w.heap.size w w':=by
 have hlt:=hc.lt h0
 have hc0:∀ o,(w.alloc o).cell? ⟨b,off,none⟩ = some (.int .u8 ((body.getD 0 0).toNat:Int)):=fun o=>(hc.alloc o).at 0 h0
 have e1:(((body.getD 0 0).toNat:Int) == 1) = false:=by rw [show (1:Int) = ((1:Nat):Int) from rfl,toNat_eq _ 1 (by omega)];exact decide_eq_false h1
 have e2:(((body.getD 0 0).toNat:Int) == 2) = false:=by rw [show (2:Int) = ((2:Nat):Int) from rfl,toNat_eq _ 2 (by omega)];exact decide_eq_false h2
 clear h1 h2
 generalize (body.getD 0 0).toNat = k at *
 go_enter Tryz.func40,Tryz.ntmps40
 go_wp2
 exact bodyPost_ret (v:=.tuple #[itemNone,.bool false]) (by simp [results,Tryz.results40,go_sem,itemNone]) rfl ⟨rfl,(Below.refl _ _).alloc (Nat.le_refl _) _⟩
theorem itemOf_empty (b off cap:Nat) (w:World) :
 Calls Tryz.prog 40 #[.slice (some ⟨b,off,none⟩) 0 cap] w fun e w'=>
  e = .returned (.tuple #[itemNone,.bool false]) /\ Below w.heap.size w w':=by
 go_enter Tryz.func40,Tryz.ntmps40
 go_wp2
 exact bodyPost_ret (v:=.tuple #[itemNone,.bool false]) (by simp [results,Tryz.results40,go_sem,itemNone]) rfl ⟨rfl,(Below.refl _ _).alloc (Nat.le_refl _) _⟩
theorem itemOf_any (b off cap:Nat) (body:List UInt8) (w:World) (hc:Bytes w b off body) (hl:body.length <= 1000) (hcap:body.length < cap) :
 Calls Tryz.prog 40 #[.slice (some ⟨b,off,none⟩) body.length cap] w fun e w'=>
  itemCells (itemOfV body) /\ e = .returned (.tuple #[itemOfV body,.bool (itemOfB body)]) /\ Below w.heap.size w w':=by
 by_cases h0:0 < body.length
 . by_cases h1:body.getD 0 0 = 1
   . refine (itemOf_event b off cap body w hc hl hcap h0 h1).mono ?_
     rintro e w' ⟨⟨v,hv,hv2,rfl⟩,hb⟩
     have e1:itemOfB body = isEvent body:=by rw [itemOfB,if_pos h1]
     have e2:itemOfV body = v:=by rw [itemOfV,e1,hv2,if_pos h1];rfl
     rw [e1,e2]
     exact ⟨hv,rfl,hb⟩
   . by_cases h2:body.getD 0 0 = 2
     . refine (itemOf_mark b off cap body w hc hl hcap h0 h2).mono ?_
       rintro e w' ⟨⟨v,hv,hv2,rfl⟩,hb⟩
       have e1:itemOfB body = mkB body:=by rw [itemOfB,if_neg h1,if_pos h2];rfl
       have e2:itemOfV body = v:=by rw [itemOfV,e1,hv2,if_neg h1];simp [mkB,mkV]
       rw [e1,e2]
       exact ⟨hv,rfl,hb⟩
     . refine (itemOf_other b off cap body w hc hl h0 h1 h2).mono ?_
       rintro e w' ⟨rfl,hb⟩
       have e1:itemOfB body = false:=by rw [itemOfB,if_neg h1,if_neg h2]
       have e2:itemOfV body = itemNone:=by rw [itemOfV,e1];simp
       rw [e1,e2]
       exact ⟨itemNone_cells,rfl,hb⟩
 . have hb0:body = []:=List.eq_nil_of_length_eq_zero (by omega)
   subst hb0
   refine (itemOf_empty b off cap w).mono ?_
   rintro e w' ⟨rfl,hb⟩
   exact ⟨itemNone_cells,rfl,hb⟩
end Go.Proofs.YtcfngdnmpogaoaaGreat
namespace Go.Proofs.YtcfngdnmpogaoaaGreat
open Go.RowKit
set_option maxHeartbeats 1600000
def unfShort (l:List UInt8):Bool:=decide (l.length < (l.getD 0 0).toNat + 3)
def unfBody (l:List UInt8):List UInt8:=(l.drop 1).take (l.getD 0 0).toNat
def unfCrc (l:List UInt8):Bool:=decide (numb ((l.drop (1 + (l.getD 0 0).toNat)).take 2) = crc (unfBody l))
theorem unframe_empty (a:Option Addr) (cap:Nat) (w:World) :
 Calls Tryz.prog 16 #[.slice a 0 cap] w fun e w'=>e = .returned (.tuple #[itemNone,.int .i64 0,.int .i64 0]) /\ Below w.heap.size w w':=by
 go_enter Tryz.func16,Tryz.ntmps16
 go_wp2
 exact bodyPost_ret (v:=.tuple #[itemNone,.int .i64 0,.int .i64 0]) (by simp [results,Tryz.results16,go_sem,itemNone]) rfl ⟨rfl,(Below.refl _ _).alloc (Nat.le_refl _) _⟩
theorem unframe_short (b off cap:Nat) (l:List UInt8) (w:World) (hc:Bytes w b off l) (h0:0 < l.length) (hl:l.length <= 9223372036854775807) (hs:l.length < (l.getD 0 0).toNat + 3) :
 Calls Tryz.prog 16 #[.slice (some ⟨b,off,none⟩) l.length cap] w fun e w'=>e = .returned (.tuple #[itemNone,.int .i64 0,.int .i64 0]) /\ Below w.heap.size w w':=by
 have hlt:=hc.lt h0
 have hc0:∀ o,(w.alloc o).cell? ⟨b,off,none⟩ = some (.int .u8 ((l.getD 0 0).toNat:Int)):=fun o=>(hc.alloc o).at 0 h0
 have hk:=(l.getD 0 0).toNat_lt
 generalize (l.getD 0 0).toNat = k at *
 go_enter Tryz.func16,Tryz.ntmps16
 go_wp2
 exact bodyPost_ret (v:=.tuple #[itemNone,.int .i64 0,.int .i64 0]) (by simp [results,Tryz.results16,go_sem,itemNone]) rfl ⟨rfl,(Below.refl _ _).alloc (Nat.le_refl _) _⟩
theorem check_n (b off cap n:Nat) (l:List UInt8) (w:World) (hn:n = l.length) (hl:l.length <= 9223372036854775807) (hc:Bytes w b off l) :
 Calls Tryz.prog 38 #[.slice (some ⟨b,off,none⟩) n cap] w fun e w'=>e = .returned (.int .u16 (crc l:Nat)) /\ w' = w:=by
 subst hn;exact check_any b off cap l w hl hc
theorem itemOf_n (b off cap n:Nat) (body:List UInt8) (w:World) (hn:n = body.length) (hc:Bytes w b off body) (hl:body.length <= 1000) (hcap:body.length < cap) :
 Calls Tryz.prog 40 #[.slice (some ⟨b,off,none⟩) n cap] w fun e w'=>
  itemCells (itemOfV body) /\ e = .returned (.tuple #[itemOfV body,.bool (itemOfB body)]) /\ Below w.heap.size w w':=by
 subst hn;exact itemOf_any b off cap body w hc hl hcap
def unfOk (l:List UInt8):Bool:=unfCrc l && itemOfB (unfBody l)
theorem unframe_long (b off cap:Nat) (l:List UInt8) (w:World) (hc:Bytes w b off l) (h0:0 < l.length) (hl:l.length <= 9223372036854775807) (hcap:l.length <= cap) (hs:(l.getD 0 0).toNat + 3 <= l.length) :
 Calls Tryz.prog 16 #[.slice (some ⟨b,off,none⟩) l.length cap] w fun e w'=>
  (unfOk l = true -> itemCells (itemOfV (unfBody l)) /\ e = .returned (.tuple #[itemOfV (unfBody l),.int .i64 ((l.getD 0 0).toNat + 3:Nat),.int .i64 0])) /\
  (unfOk l = false -> e = .returned (.tuple #[itemNone,.int .i64 0,.int .i64 2])) /\ Below w.heap.size w w':=by
 have hlt:=hc.lt h0
 have hc0:∀ o,(w.alloc o).cell? ⟨b,off,none⟩ = some (.int .u8 ((l.getD 0 0).toNat:Int)):=fun o=>(hc.alloc o).at 0 h0
 have hk:=(l.getD 0 0).toNat_lt
 have hbl:(unfBody l).length = (l.getD 0 0).toNat:=by rw [unfBody,List.length_take,List.length_drop];omega
 have hbB:Hid (∀ o,Bytes (w.alloc o) b (off + 1) (unfBody l)):=fun o=>((hc.alloc o).drop 1).take _
 have hq:Hid (∀ o cap',Calls Tryz.prog 39 #[.slice (some ⟨b,off + (1 + (l.getD 0 0).toNat),none⟩) 2 cap'] (w.alloc o) fun e w'=>e = .returned (.int .u64 (numb ((l.drop (1 + (l.getD 0 0).toNat)).take 2):Nat)) /\ w' = w.alloc o):=fun o cap'=>by
  have:=readLow_at b off (off + (1 + (l.getD 0 0).toNat)) 2 cap' l (w.alloc o) (hc.alloc o) (by omega) (by omega) (by omega)
  rw [Nat.add_sub_cancel_left] at this
  exact this
 have HK:Hid (unfCrc l = decide (numb ((l.drop (1 + (l.getD 0 0).toNat)).take 2) = crc (unfBody l))):=rfl
 have HO:Hid (unfOk l = (unfCrc l && itemOfB (unfBody l))):=rfl
 have hC:=crc_lt (unfBody l)
 generalize (l.getD 0 0).toNat = k at *
 generalize unfBody l = body at *
 generalize numb ((l.drop (1 + k)).take 2) = X at *
 go_enter Tryz.func16,Tryz.ntmps16
 go_wp2_with fail
 refine (hq.out _ _).mono ?_
 rintro e w1 ⟨rfl,rfl⟩
 go_wp2_with fail
 refine (check_n b (off + 1) (cap - 1) k body _ hbl.symm (by omega) (hbB.out _)).mono ?_
 rintro e w1 ⟨rfl,rfl⟩
 generalize crc body = C at *
 cases hcr:unfCrc l with
 | false=>
   have hxc:((X:Int) != (C:Int)) = true:=by
    have:=HK.out;rw [hcr] at this
    have:=of_decide_eq_false this.symm
    simp;omega
   have hok:Hid (unfOk l = false):=by show _ = _;rw [HO.out,hcr];rfl
   clear HK HO hcr
   go_wp2
   refine bodyPost_ret (v:=.tuple #[itemNone,.int .i64 0,.int .i64 2]) (by simp [results,Tryz.results16,go_sem,itemNone]) rfl ⟨fun h=>?_,fun _=>rfl,(Below.refl _ _).alloc (Nat.le_refl _) _⟩
   rw [hok.out] at h;cases h
 | true=>
   have hxc:((X:Int) != (C:Int)) = false:=by
    have:=HK.out;rw [hcr] at this
    have:=of_decide_eq_true this.symm
    simp;omega
   have HO':Hid (unfOk l = itemOfB body):=by show _ = _;rw [HO.out,hcr];rfl
   clear HK HO hcr
   go_wp2_with fail
   refine (itemOf_n b (off + 1) (cap - 1) k body _ hbl.symm (hbB.out _) (by omega) (by omega)).mono ?_
   rintro e w2 ⟨⟨x1,x2,x3,x4,x5,hv⟩,rfl,hb⟩
   rw [hv]
   have Hv:=hid hv
   clear hv
   obtain ⟨c0,c1,c2,c3,c4,fz,hs2,hbw⟩:=item_box hb (by simp)
   clear hb
   cases hib:itemOfB body with
   | false=>
     have hok:Hid (unfOk l = false):=by show _ = _;rw [HO'.out,hib]
     clear hib HO'
     go_wp2
     refine bodyPost_ret (v:=.tuple #[itemNone,.int .i64 0,.int .i64 2]) (by simp [results,Tryz.results16,go_sem,itemNone,c0,c1,c2,c3,c4,hs2]) rfl ⟨fun h=>?_,fun _=>rfl,(item_put hbw).alloc (by simp;omega) _⟩
     rw [hok.out] at h;cases h
   | true=>
     have hok:Hid (unfOk l = true):=by show _ = _;rw [HO'.out,hib]
     clear hib HO'
     have hk3:Hid ((1:Int) + (k:Int) + 2 = ((k + 3:Nat):Int)):=by show _ = _;omega
     go_wp2
     refine bodyPost_ret (v:=.tuple #[.agg #[.int .i64 x1,.string x2,.int .i64 x3,.int .i64 x4,.int .u32 x5],.int .i64 ((1:Int) + (k:Int) + 2),.int .i64 0]) (by simp [results,Tryz.results16,go_sem,c0,c1,c2,c3,c4,hs2]) rfl ⟨fun _=>⟨⟨_,_,_,_,_,Hv.out⟩,by rw [Hv.out,hk3.out]⟩,fun h=>?_,(item_put hbw).alloc (by simp;omega) _⟩
     rw [hok.out] at h;cases h
end Go.Proofs.YtcfngdnmpogaoaaGreat
namespace Go.Proofs.YtcfngdnmpogaoaaGreat
open Go.RowKit
set_option maxHeartbeats 800000
set_option maxRecDepth 20000
theorem str_app (a b:List UInt8):str a ++ str b = str (a ++ b):=by
 apply ByteArray.ext
 simp [str,ByteArray.data_append]
theorem conv_one (W:World) (g:Nat) (n:Nat) (hc:W.cell? ⟨g,0,none⟩ = some (.int .u8 (n:Int))) (hn:n < 256) :
 (convert 30 9 (.slice (some ⟨g,0,none⟩) 1 1)).run Tryz.prog W = .ok (.string (str [UInt8.ofNat n])) W:=by
 refine run_convert_bytes_back (P:=Tryz.prog) W 30 9 5 ⟨g,0,none⟩ 1 [UInt8.ofNat n] Tryz.underlying30 Tryz.underlying5 Tryz.underlying9 (fun j hj=>?_)
 have hj:j = 0:=by simpa using hj
 subst hj
 rw [Addr.add_lit]
 have e:(UInt8.ofNat n).toNat = n:=by simp [UInt8.toNat_ofNat'];omega
 simpa [e] using hc
theorem bcell {W w1:World} {B:Nat} (hb:Below B W w1):(∀ b o,b < B -> w1.cell? ⟨b,o,none⟩ = W.cell? ⟨b,o,none⟩) /\ (∀ b o,b < B -> w1.frozen? ⟨b,o,none⟩ = W.frozen? ⟨b,o,none⟩):=
 ⟨fun b o h=>hb.cell (p:=⟨b,o,none⟩) h,fun b o h=>hb.frozen (p:=⟨b,o,none⟩) h⟩
theorem ret_si {a b:ByteArray} {n:Int} (h:a = b):Ending.returned (.tuple #[.string a,.int .i64 n]) = .returned (.tuple #[.string b,.int .i64 n]):=by rw [h]
theorem rframe_mark (key:ByteArray) (time value:Int) (tag:Nat) (w:World) (hk:key.size <= 9223372036854775807) (h:isItemB 2 key value tag = true) (_ht:tag < 4294967296) :
 Calls Tryz.prog 31 #[.agg #[.int .i64 2,.string key,.int .i64 time,.int .i64 value,.int .u32 (tag:Int)]] w fun e w'=>
  e = .returned (.tuple #[.string (str (frameBytes 2 key time value tag)),.int .i64 0]) /\ Below w.heap.size w w':=by
 have hT:=toU_eq time
 go_enter Tryz.func31,Tryz.ntmps31
 go_wp2_with fail
 refine (rIsItem_any 2 key time value tag _ hk).mono ?_
 rintro e w1 ⟨rfl,hb1⟩
 have d0:w1.cell? ⟨w.heap.size,0,none⟩ = some (.int .i64 2):=by rw [hb1.cell (by simp)];simp
 have d2:w1.cell? ⟨w.heap.size,2,none⟩ = some (.int .i64 time):=by rw [hb1.cell (by simp)];simp
 have hbw1:Below w.heap.size w w1:=((Below.refl _ w).alloc (Nat.le_refl _) _).trans (hb1.mono (by simp))
 have hs1:w.heap.size < w1.heap.size:=by have:=hb1.size;simp at this;omega
 clear hb1
 go_wp2_with fail
 refine (low_any (toU time) 8 _ (toU_lt _) (by omega) (by omega)).mono ?_
 rintro e w2 ⟨rfl,hb2⟩
 have d0:w2.cell? ⟨w.heap.size,0,none⟩ = some (.int .i64 2):=by rw [hb2.cell (by simp;omega)];exact d0
 have hbw2:=hbw1.trans (hb2.mono (by omega))
 have hs2:w.heap.size < w2.heap.size:=by have:=hb2.size;omega
 have hcat:(⟨#[2]⟩:ByteArray) ++ str (low (toU time) 8) = str (bodyMark time):=by rw [bodyMark];exact str_app [2] _
 have hsz:(str (low (toU time) 8)).size = 8:=by rw [str_size,low_length]
 go_wp2_with fail
 clear hcat hsz d0 d2 hb2 hbw1
 have hbl:(str (bodyMark time)).size = (bodyMark time).length:=str_size _
 have hb9:9 <= (bodyMark time).length /\ (bodyMark time).length <= 30:=by simp [bodyMark,low_length]
 obtain ⟨hb9,hb30⟩:=hb9
 have hbd:(str (bodyMark time)).data.toList = bodyMark time:=str_data _
 have HF:Hid (frameBytes 2 key time value tag = UInt8.ofNat (bodyMark time).length :: (bodyMark time ++ low (crc (bodyMark time)) 2)):=rfl
 generalize bodyMark time = bd at *
 refine (rcheck_any (str bd) _ (by omega)).mono ?_
 rintro e w3 ⟨rfl,rfl⟩
 rw [hbd]
 have hcl:=crc_lt bd
 generalize crc bd = C at *
 clear hbd
 go_wp2_with fail
 have hbm:IntKind.u8.wrap (bd.length:Int) = bd.length:=by rw [IntKind.wrap_u8];omega
 have hwC:IntKind.u64.wrap (C:Int) = C:=by rw [IntKind.wrap_u64];omega
 have hcv:=fun (W:World) (g:Nat) (h:W.cell? ⟨g,0,none⟩ = some (.int .u8 (bd.length:Int)))=>conv_one W g bd.length h (by omega)
 have hlz:(str (low C 2)).size = 2:=by rw [str_size,low_length]
 have hsx:(str [UInt8.ofNat bd.length]).size = 1:=rfl
 have hcat:(str [UInt8.ofNat bd.length] ++ str bd) ++ str (low C 2) = str (UInt8.ofNat bd.length :: (bd ++ low C 2)):=by rw [str_app,str_app];rfl
 have hcs:(str [UInt8.ofNat bd.length] ++ str bd).size = 1 + bd.length:=by rw [str_app,str_size];simp;omega
 go_region_with (go_at_call 51;refine (low_any C 2 _ (by omega) (by omega) (by omega)).mono ?_;rintro e w' ⟨rfl,hb⟩;have hkeep:=bcell hb)
 all_goals go_wp2
 all_goals go_ret2
 all_goals refine ⟨?_,?_⟩
 all_goals first
  | exact ret_si (by rw [HF.out])
  | exact ret_si (by rw [HF.out];exact hcat)
  | exact hbw2.trans ((((Below.refl _ _).alloc (by omega) _).drew).trans (hb.mono (by simp;omega)))
  | exact (hbw2.trans (((Below.refl _ _).drew).trans (hb.mono (by simp;omega)))).alloc (by have:=hb.size;simp at this;omega) _
end Go.Proofs.YtcfngdnmpogaoaaGreat
namespace Go.Proofs.YtcfngdnmpogaoaaGreat
open Go.RowKit
set_option maxHeartbeats 800000
set_option maxRecDepth 20000
theorem str_of (s:ByteArray):str s.data.toList = s:=by
 apply ByteArray.ext
 simp [str]
theorem rframe_event (key:ByteArray) (time value:Int) (tag:Nat) (w:World) (h1:1 <= key.size) (h8:key.size <= 8) (h:isItemB 1 key value tag = true) (ht:tag < 4294967296) :
 Calls Tryz.prog 31 #[.agg #[.int .i64 1,.string key,.int .i64 time,.int .i64 value,.int .u32 (tag:Int)]] w fun e w'=>
  e = .returned (.tuple #[.string (str (frameBytes 1 key time value tag)),.int .i64 0]) /\ Below w.heap.size w w':=by
 have hT:=toU_eq time
 go_enter Tryz.func31,Tryz.ntmps31
 go_wp2_with fail
 refine (rIsItem_any 1 key time value tag _ (by omega)).mono ?_
 rintro e w1 ⟨rfl,hb1⟩
 have hcell:Hid (∀ W:World,Below (w.heap.size + 1) w1 W -> W.cell? ⟨w.heap.size,0,none⟩ = some (.int .i64 1) /\ W.cell? ⟨w.heap.size,1,none⟩ = some (.string key) /\ W.cell? ⟨w.heap.size,2,none⟩ = some (.int .i64 time) /\ W.cell? ⟨w.heap.size,3,none⟩ = some (.int .i64 value) /\ W.cell? ⟨w.heap.size,4,none⟩ = some (.int .u32 (tag:Int))):=by
  intro W hW
  refine ⟨?_,?_,?_,?_,?_⟩ <;> (rw [hW.cell (by simp),hb1.cell (by simp)];simp)
 have hbw1:Below w.heap.size w w1:=((Below.refl _ w).alloc (Nat.le_refl _) _).trans (hb1.mono (by simp))
 have hs1:w.heap.size < w1.heap.size:=by have:=hb1.size;simp at this;omega
 clear hb1
 obtain ⟨d0,d1,d2,d3,d4⟩:=hcell.out w1 (Below.refl _ _)
 go_wp2_with fail
 refine (low_any (toU time) 8 _ (toU_lt _) (by omega) (by omega)).mono ?_
 clear d0 d1 d2 d3 d4
 rintro e w2 ⟨rfl,hb2⟩
 have hc2:Below (w.heap.size + 1) w1 w2:=hb2.mono (by omega)
 have hs2:=hb2.size
 obtain ⟨d0,d1,d2,d3,d4⟩:=hcell.out w2 hc2
 have hsz:(str (low (toU time) 8)).size = 8:=by rw [str_size,low_length]
 have hV:=toU_eq value
 go_wp2_with fail
 refine (low_any (toU value) 8 _ (toU_lt _) (by omega) (by omega)).mono ?_
 clear d0 d1 d2 d3 d4
 rintro e w4 ⟨rfl,hb4⟩
 have hc4:Below (w.heap.size + 1) w1 w4:=hc2.trans (hb4.mono (by omega))
 have hs4:=hb4.size
 obtain ⟨d0,d1,d2,d3,d4⟩:=hcell.out w4 hc4
 go_wp2_with fail
 refine (low_any tag 4 _ (by omega) (by omega) (by omega)).mono ?_
 clear d0 d1 d2 d3 d4
 rintro e w5 ⟨rfl,hb5⟩
 have hc5:Below (w.heap.size + 1) w1 w5:=hc4.trans (hb5.mono (by omega))
 have hs5:=hb5.size
 obtain ⟨d0,d1,d2,d3,d4⟩:=hcell.out w5 hc5
 have d1':∀ o:Obj,(w5.alloc o).cell? ⟨w.heap.size,1,none⟩ = some (.string key):=fun o=>(hcell.out (w5.alloc o) (hc5.alloc (by omega) o)).2.1
 have hbw2:Below w.heap.size w w5:=hbw1.trans (hc5.mono (by omega))
 clear hb2 hb4 hb5 hc2 hc4 hc5
 have hcv0:=fun (W:World) (g:Nat) (h:W.cell? ⟨g,0,none⟩ = some (.int .u8 (key.size:Int)))=>conv_one W g key.size h (by omega)
 have hk8:(key.size:Int) % 256 = key.size:=by omega
 have hszv:(str (low (toU value) 8)).size = 8:=by rw [str_size,low_length]
 have hszt:(str (low tag 4)).size = 4:=by rw [str_size,low_length]
 have hsz1:(str [UInt8.ofNat key.size]).size = 1:=rfl
 obtain ⟨L0,H0⟩:∃ L:List UInt8,Hid (L = [1,UInt8.ofNat key.size]):=⟨_,rfl⟩
 obtain ⟨L1,H1⟩:∃ L:List UInt8,Hid (L = L0 ++ key.data.toList):=⟨_,rfl⟩
 obtain ⟨L2,H2⟩:∃ L:List UInt8,Hid (L = L1 ++ low (toU time) 8):=⟨_,rfl⟩
 obtain ⟨L3,H3⟩:∃ L:List UInt8,Hid (L = L2 ++ low (toU value) 8):=⟨_,rfl⟩
 have q1:((⟨#[1]⟩:ByteArray) ++ str [UInt8.ofNat key.size]) = str L0:=by rw [H0.out];exact str_app [1] _
 have q2:(str L0 ++ key) = str L1:=by rw [H1.out,<- str_app,str_of]
 have q3:str L1 ++ str (low (toU time) 8) = str L2:=by rw [H2.out,str_app]
 have q4:str L2 ++ str (low (toU value) 8) = str L3:=by rw [H3.out,str_app]
 have q5:str L3 ++ str (low tag 4) = str (bodyEvent key.data.toList time value tag):=by rw [str_app,H3.out,H2.out,H1.out,H0.out,bodyEvent,keyLen];rfl
 have hz2:(str L0).size = 2:=by rw [H0.out];rfl
 have hz3:(str L1).size = 2 + key.size:=by rw [str_size,H1.out,H0.out];simp;omega
 have hz4:(str L2).size = 10 + key.size:=by rw [str_size,H2.out,H1.out,H0.out];simp [low_length];omega
 have hz5:(str L3).size = 18 + key.size:=by rw [str_size,H3.out,H2.out,H1.out,H0.out];simp [low_length];omega
 go_wp2_with fail
 clear q1 q2 q3 q4 q5 hz2 hz3 hz4 hz5 H0 H1 H2 H3 d0 d1 d2 d3 d4 d1' hcv0 hszv hszt hsz1 hV hT hsz hcell
 have hbw2:Below w.heap.size w (w5.alloc (.cells #[.int .u8 (key.size:Int)] 5)):=hbw2.alloc (by omega) _
 have hs2:w.heap.size < (w5.alloc (.cells #[.int .u8 (key.size:Int)] 5)).heap.size:=by simp;omega
 generalize w5.alloc (.cells #[.int .u8 (key.size:Int)] 5) = w9 at *
 have hbl:(str (bodyEvent key.data.toList time value tag)).size = (bodyEvent key.data.toList time value tag).length:=str_size _
 have hb9:9 <= (bodyEvent key.data.toList time value tag).length /\ (bodyEvent key.data.toList time value tag).length <= 30:=by simp [bodyEvent,low_length];omega
 obtain ⟨hb9,hb30⟩:=hb9
 have hbd:(str (bodyEvent key.data.toList time value tag)).data.toList = bodyEvent key.data.toList time value tag:=str_data _
 have HF:Hid (frameBytes 1 key time value tag = UInt8.ofNat (bodyEvent key.data.toList time value tag).length :: (bodyEvent key.data.toList time value tag ++ low (crc (bodyEvent key.data.toList time value tag)) 2)):=rfl
 generalize bodyEvent key.data.toList time value tag = bd at *
 refine (rcheck_any (str bd) _ (by omega)).mono ?_
 rintro e w3 ⟨rfl,rfl⟩
 rw [hbd]
 have hcl:=crc_lt bd
 generalize crc bd = C at *
 clear hbd
 go_wp2_with fail
 have hbm:IntKind.u8.wrap (bd.length:Int) = bd.length:=by rw [IntKind.wrap_u8];omega
 have hwC:IntKind.u64.wrap (C:Int) = C:=by rw [IntKind.wrap_u64];omega
 have hcv:=fun (W:World) (g:Nat) (h:W.cell? ⟨g,0,none⟩ = some (.int .u8 (bd.length:Int)))=>conv_one W g bd.length h (by omega)
 have hlz:(str (low C 2)).size = 2:=by rw [str_size,low_length]
 have hsx:(str [UInt8.ofNat bd.length]).size = 1:=rfl
 have hcat:(str [UInt8.ofNat bd.length] ++ str bd) ++ str (low C 2) = str (UInt8.ofNat bd.length :: (bd ++ low C 2)):=by rw [str_app,str_app];rfl
 have hcs:(str [UInt8.ofNat bd.length] ++ str bd).size = 1 + bd.length:=by rw [str_app,str_size];simp;omega
 go_region_with (go_at_call 51;refine (low_any C 2 _ (by omega) (by omega) (by omega)).mono ?_;rintro e w' ⟨rfl,hb⟩;have hkeep:=bcell hb)
 all_goals go_wp2
 all_goals go_ret2
 all_goals refine ⟨?_,?_⟩
 all_goals first
  | exact ret_si (by rw [HF.out])
  | exact ret_si (by rw [HF.out];exact hcat)
  | exact hbw2.trans ((((Below.refl _ _).alloc (by omega) _).drew).trans (hb.mono (by simp;omega)))
  | exact (hbw2.trans (((Below.refl _ _).drew).trans (hb.mono (by simp;omega)))).alloc (by have:=hb.size;simp at this;omega) _
end Go.Proofs.YtcfngdnmpogaoaaGreat
namespace Go.Proofs.YtcfngdnmpogaoaaGreat
open Go.RowKit
set_option maxHeartbeats 1600000
theorem two_box (w:World) (o o':Obj):Below w.heap.size w ((w.alloc o).alloc o'):=((Below.refl _ w).alloc (Nat.le_refl _) o).alloc (by simp) o'
theorem runframe_empty (s:ByteArray) (w:World) (h0:s.size = 0) :
 Calls Tryz.prog 78 #[.string s] w fun e w'=>e = .returned (.tuple #[itemNone,.int .i64 0,.int .i64 0]) /\ Below w.heap.size w w':=by
 have hz:((s.size:Int) == 0) = true:=by simp [h0]
 go_enter Tryz.func78,Tryz.ntmps78
 go_wp2
 exact bodyPost_ret (v:=.tuple #[itemNone,.int .i64 0,.int .i64 0]) (by simp [results,Tryz.results78,go_sem,itemNone]) rfl ⟨rfl,two_box _ _ _⟩
theorem getD_str (s:ByteArray) (j:Nat) (h:j < s.size):s[j] = s.data.toList.getD j 0:=by
 rw [List.getD_eq_getElem?_getD,List.getElem?_eq_getElem (by rw [keyLen];exact h)]
 rfl
theorem runframe_short (s:ByteArray) (w:World) (h0:0 < s.size) (hl:s.size <= 9223372036854775807) (hs:s.size < (s.data.toList.getD 0 0).toNat + 3) :
 Calls Tryz.prog 78 #[.string s] w fun e w'=>e = .returned (.tuple #[itemNone,.int .i64 0,.int .i64 0]) /\ Below w.heap.size w w':=by
 have hg:=getD_str s 0 h0
 have hk:=(s.data.toList.getD 0 0).toNat_lt
 generalize s.data.toList.getD 0 0 = x0 at *
 have hz:((s.size:Int) == 0) = false:=beq_eq_false_iff_ne.2 (by omega)
 have hd:decide ((s.size:Int) < (x0.toNat:Int) + 3) = true:=by simp;omega
 go_enter Tryz.func78,Tryz.ntmps78
 go_wp2
 exact bodyPost_ret (v:=.tuple #[itemNone,.int .i64 0,.int .i64 0]) (by simp [results,Tryz.results78,go_sem,itemNone]) rfl ⟨rfl,two_box _ _ _⟩
theorem extract_str (s:ByteArray) (a b:Nat):s.extract a b = str ((s.data.toList.drop a).take (b - a)):=by
 rw [<- str_of (s.extract a b)]
 congr 1
 simp [ByteArray.data_extract,List.extract_eq_take_drop]
theorem runframe_crc (s:ByteArray) (w:World) (h0:0 < s.size) (hl:s.size <= 9223372036854775807) (hs:(s.data.toList.getD 0 0).toNat + 3 <= s.size) (hc:unfCrc s.data.toList = false \/ unfBody s.data.toList = []) :
 Calls Tryz.prog 78 #[.string s] w fun e w'=>e = .returned (.tuple #[itemNone,.int .i64 0,.int .i64 2]) /\ Below w.heap.size w w':=by
 have hg:=getD_str s 0 h0
 have hk:=(s.data.toList.getD 0 0).toNat_lt
 have hE:s.extract 1 ((s.data.toList.getD 0 0).toNat + 1) = str (unfBody s.data.toList):=extract_str _ _ _
 have hC:=crc_lt (unfBody s.data.toList)
 have hbl:(unfBody s.data.toList).length = (s.data.toList.getD 0 0).toNat:=by rw [unfBody,List.length_take,List.length_drop,keyLen];omega
 have hq:Hid (∀ W:World,Calls Tryz.prog 113 #[.string s,.int .i64 ((s.data.toList.getD 0 0).toNat + 1:Int),.int .i64 2] W fun e w'=>e = .returned (.int .u64 (numb ((s.data.toList.drop (1 + (s.data.toList.getD 0 0).toNat)).take 2):Nat)) /\ w' = W):=fun W=>by
  have:=number_any s (1 + (s.data.toList.getD 0 0).toNat) 2 W hl (by omega) (by omega)
  rw [show ((1 + (s.data.toList.getD 0 0).toNat:Nat):Int) = ((s.data.toList.getD 0 0).toNat:Int) + 1 from by omega] at this
  exact this
 have HK:Hid (unfCrc s.data.toList = decide (numb ((s.data.toList.drop (1 + (s.data.toList.getD 0 0).toNat)).take 2) = crc (unfBody s.data.toList))):=rfl
 have hrc:=rcheck_any (str (unfBody s.data.toList))
 rw [str_data,str_size] at hrc
 have Hrc:Hid _:=hrc
 clear hrc
 generalize s.data.toList.getD 0 0 = x0 at *
 generalize unfCrc s.data.toList = cr at *
 generalize numb ((s.data.toList.drop (1 + x0.toNat)).take 2) = X at *
 generalize unfBody s.data.toList = body at *
 have hz:((s.size:Int) == 0) = false:=beq_eq_false_iff_ne.2 (by omega)
 have hd:decide ((s.size:Int) < (x0.toNat:Int) + 3) = false:=by simp;omega
 have HC:=hid hc
 clear hc
 go_enter Tryz.func78,Tryz.ntmps78
 go_wp2_with fail
 refine (Hrc.out _ (by omega)).mono ?_
 rintro e w1 ⟨rfl,rfl⟩
 generalize crc body = C at *
 have hwC:IntKind.u64.wrap (C:Int) = C:=by rw [IntKind.wrap_u64];omega
 go_wp2_with fail
 refine (hq.out _).mono ?_
 rintro e w1 ⟨rfl,rfl⟩
 by_cases hx:X = C
 . have hb0:body = []:=by
    rcases HC.out with h | h
    . rw [HK.out,decide_eq_false_iff_not] at h;exact absurd hx h
    . exact h
   have hk0:x0.toNat = 0:=by rw [<- hbl,hb0];rfl
   have hxb:((C:Int) != (X:Int)) = false:=by simp [hx]
   have hk0':((x0.toNat:Int) == 0) = true:=by simp [hk0]
   clear hx hb0 hk0 HK HC
   go_wp2
   exact bodyPost_ret (v:=.tuple #[itemNone,.int .i64 0,.int .i64 2]) (by simp [results,Tryz.results78,go_sem,itemNone]) rfl ⟨rfl,two_box _ _ _⟩
 . have hxb:((C:Int) != (X:Int)) = true:=by simp;omega
   clear hx HK HC
   go_wp2
   exact bodyPost_ret (v:=.tuple #[itemNone,.int .i64 0,.int .i64 2]) (by simp [results,Tryz.results78,go_sem,itemNone]) rfl ⟨rfl,two_box _ _ _⟩
end Go.Proofs.YtcfngdnmpogaoaaGreat
