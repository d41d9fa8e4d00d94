import Derived.Test.YtcfngdnmpogaoaaGreatTkT16
import Derived.Test.YtcfngdnmpogaoaaGreatTkT08
import Derived.Test.YtcfngdnmpogaoaaGreatTkU04
import Derived.Test.YtcfngdnmpogaoaaGreatTkT10
import Derived.Lib.BufferWrite
namespace Go.Proofs.YtcfngdnmpogaoaaGreat
open Go.RowKit Go.MuLone
set_option maxHeartbeats 3200000
set_option maxRecDepth 20000
structure PaneQ where
 P:Nat
 f:Int
 l:Int
theorem bsearch_zero (a:Option Addr) (c:Nat) (first last:Int) (f:Value) (w:World) :
 Calls Tryz.prog 164 #[.slice a 0 c,.agg #[.int .i64 first,.int .i64 last],f] w fun e w'=>e=.returned (.tuple #[.int .i64 0,.bool false])/\Below w.heap.size w w':=by
 go_enter Tryz.func164,Tryz.ntmps164
 go_wp2
 refine wp_loop_rounds 1 ?_
 rw [rounds_succ]
 go_wp2_with fail
 have hd:decide ((0:Int) < 0)=false:=by decide
 go_quiet (fail)
 go_wp2
 go_ret2
 exact ⟨rfl,below_drewN ((Below.refl _ w).alloc (Nat.le_refl _) _) nq⟩
structure BInv (w wr:World) (B:Nat) (qs:List PaneQ) (f l:Int) (lo hi:Nat):Prop where
 le:lo<=hi
 len:hi<=qs.length
 less:∀ (t:Nat) q,t < lo->qs[t]?=some q->cmpW q.f q.l f l < 0
 more:∀ (t:Nat) q,hi<=t->qs[t]?=some q->0<=cmpW q.f q.l f l
 below:Below B w wr
 box:wr.heap[B]?=some (.cells #[.int .i64 f,.int .i64 l] 202 (0,0))
theorem bsearch_any (g o c:Nat) (qs:List PaneQ) (f l:Int) (w:World) (hrow:Row w 208 1 (.slice (some ⟨g,o,none⟩) qs.length c) (qs.map fun q=>.pointer (some ⟨q.P,0,none⟩)))
 (hc:∀ q ∈ qs,w.cell? ⟨q.P,0,none⟩=some (.int .i64 q.f)/\w.cell? ⟨q.P,1,none⟩=some (.int .i64 q.l))
 (hmono:∀ (a b:Nat) qa qb,a<=b->qs[a]?=some qa->qs[b]?=some qb->cmpW qb.f qb.l f l < 0->cmpW qa.f qa.l f l < 0) (hsz:qs.length<=4611686018427387904) :
 Calls Tryz.prog 164 #[.slice (some ⟨g,o,none⟩) qs.length c,.agg #[.int .i64 f,.int .i64 l],.func (.func 165) #[] #[]] w fun e w'=>∃ k:Nat,k<=qs.length/\(∀ (t:Nat) q,t < k->qs[t]?=some q->cmpW q.f q.l f l < 0)/\(∀ (t:Nat) q,k<=t->qs[t]?=some q->0<=cmpW q.f q.l f l) /\
  (∃ fd:Bool,e=.returned (.tuple #[.int .i64 k,.bool fd])/\(fd=true ↔ ∃ q,qs[k]?=some q/\cmpW q.f q.l f l=0))/\Below w.heap.size w w':=by
 have HR:=hid hrow
 have HC:=hid hc
 have HM:=hid hmono
 clear hrow hc hmono
 have hbox:=heap_alloc_new w (.cells #[.int .i64 f,.int .i64 l] 202)
 have hB1:Below w.heap.size w (w.alloc (.cells #[.int .i64 f,.int .i64 l] 202)):=(Below.refl _ w).alloc (Nat.le_refl _) _
 have hat:∀ (wr:World) (t:Nat),Below w.heap.size w wr->t < qs.length->∃ q,qs[t]?=some q/\wr.cell? ⟨g,o+t,none⟩=some (.pointer (some ⟨q.P,0,none⟩))/\wr.cell? ⟨q.P,0,none⟩=some (.int .i64 q.f)/\wr.cell? ⟨q.P,1,none⟩=some (.int .i64 q.l):=by
  intro wr t hb ht
  refine ⟨qs[t],by simp [ht],?_,?_,?_⟩
  . have:=HR.out.cell t (by omega)
    rw [List.getElem?_map,List.getElem?_eq_getElem ht] at this
    rw [hb.cell (p:=⟨g,o+t,none⟩) (HR.out.blk_lt (k:=g) rfl).1];exact this
  . have:=(HC.out qs[t] (by simp)).1
    rw [hb.cell (p:=⟨qs[t].P,0,none⟩) (World.block_lt_of_cell? w ⟨qs[t].P,0,none⟩ this)];exact this
  . have:=(HC.out qs[t] (by simp)).2
    rw [hb.cell (p:=⟨qs[t].P,1,none⟩) (World.block_lt_of_cell? w ⟨qs[t].P,1,none⟩ this)];exact this
 have HA:=hid hat
 clear hat
 go_enter Tryz.func164,Tryz.ntmps164
 go_wp2
 obtain ⟨B,HBe⟩:∃ B,Hid (w.heap.size=B):=⟨_,rfl⟩
 rw [HBe.out] at hbox hB1 HA ⊢
 have HX:=hid hbox
 have HB1:=hid hB1
 clear hbox hB1
 go_loopw [9,10] (fun i j wr=>∃ lo hi:Nat,i=.int .i64 (lo:Int)/\j=.int .i64 (hi:Int)/\BInv w wr B qs f l lo hi) (fun i j _=>(intOf j - intOf i).toNat)
 case atStart=>
  exact ⟨0,qs.length,rfl,rfl,⟨Nat.zero_le _,Nat.le_refl _,fun t q h=>by omega,fun t q h hq=>(by rw [List.getElem?_eq_none h] at hq;cases hq),HB1.out,HX.out⟩⟩
 case round=>
  obtain ⟨lo,hi,rfl,rfl,hI⟩:=hrel
  have h1:=hI.le
  have h2:=hI.len
  have HI:=hid hI
  clear hI
  by_cases hlt:lo < hi
  . obtain ⟨q,hq,c0,c1,c2⟩:=HA.out wr ((lo+hi) / 2) HI.out.below (by omega)
    obtain ⟨y0,y1,-,-⟩:=cells2At HI.out.box
    have hmid:((lo:Int)+(hi:Int)) / 2=(((lo+hi) / 2:Nat):Int):=by omega
    generalize hm:(lo+hi) / 2=m at *
    have hml:lo<=m:=by omega
    have hmh:m < hi:=by omega
    have HQ:=hid hq
    have HMid:=hid hmid
    clear hm hq hmid
    go_upto_region 5 with fail
    rw [HMid.out]
    refine wp_region_still_tail 6 (by kernel_rfl) (by kernel_rfl) ?_
    simp only [List.take_succ_cons,List.take_zero,List.drop_succ_cons,List.drop_zero]
    change wpStill Tryz.prog _ wr.drew (fun a'=>wpList Tryz.prog _ _ _ a' wr.drew) _ _
    have c0:wr.drew.cell? ⟨g,o+m,none⟩=some (.pointer (some ⟨q.P,0,none⟩)):=c0
    have c1:wr.drew.cell? ⟨q.P,0,none⟩=some (.int .i64 q.f):=c1
    have c2:wr.drew.cell? ⟨q.P,1,none⟩=some (.int .i64 q.l):=c2
    have y0:wr.drew.cell? ⟨B,0,none⟩=some (.int .i64 f):=y0
    have y1:wr.drew.cell? ⟨B,1,none⟩=some (.int .i64 l):=y1
    have HI2:Hid (BInv w wr.drew B qs f l lo hi):=⟨HI.out.le,HI.out.len,HI.out.less,HI.out.more,HI.out.below.drew,HI.out.box⟩
    generalize wr.drew=W2 at *
    have hmn:(m:Int) < (qs.length:Int):=by omega
    repeat still_step
    refine wpStill_nil ?_
    have hpc:=paneCmp_any q.P q.f q.l f l W2 c1 c2
    obtain ⟨Z,HZ⟩:∃ Z,Hid (cmpW q.f q.l f l=Z):=⟨_,rfl⟩
    rw [HZ.out] at hpc
    clear c0 c1 c2 y0 y1
    go_wp2_with fail
    refine hpc.mono ?_
    rintro e W3 ⟨rfl,hb3⟩
    have hBs:=blkLt HI2.out.box
    have HI3:Hid (BInv w W3 B qs f l lo hi):=⟨HI.out.le,HI.out.len,HI.out.less,HI.out.more,HI2.out.below.trans (hb3.mono (by omega)),blkBelow HI2.out.box hb3⟩
    clear hpc hb3
    by_cases hz:Z < 0
    . go_wp2
      go_roundw
      case rel=>
       refine ⟨m+1,hi,by go_num,rfl,⟨by omega,h2,fun t q' ht hq'=>?_,HI3.out.more,HI3.out.below,HI3.out.box⟩⟩
       exact HM.out t m q' q (by omega) hq' HQ.out (by rw [HZ.out];exact hz)
      case measure=>simp [intOf];omega
    . go_wp2
      go_roundw
      case rel=>
       refine ⟨lo,m,rfl,rfl,⟨by omega,by omega,HI3.out.less,fun t q' ht hq'=>?_,HI3.out.below,HI3.out.box⟩⟩
       refine Int.not_lt.1 (fun hh=>absurd (HM.out m t q q' ht HQ.out hq' hh) ?_)
       rw [HZ.out];omega
      case measure=>simp [intOf];omega
  . have hlh:lo=hi:=by omega
    subst hlh
    go_upto_region 8 with fail
    by_cases hn:lo < qs.length
    . obtain ⟨q,hq,c0,c1,c2⟩:=HA.out wr lo HI.out.below hn
      obtain ⟨y0,y1,-,-⟩:=cells2At HI.out.box
      have HQ:=hid hq
      clear hq
      have hd:decide ((lo:Int) < (qs.length:Int))=true:=by simpa using hn
      have HI2:Hid (BInv w wr.drew B qs f l lo lo):=⟨HI.out.le,HI.out.len,HI.out.less,HI.out.more,HI.out.below.drew,HI.out.box⟩
      have hmn:(lo:Int) < (qs.length:Int):=by omega
      have hpc:=fun W h1 h2=>paneCmp_any q.P q.f q.l f l W h1 h2
      obtain ⟨Z,HZ⟩:∃ Z,Hid (cmpW q.f q.l f l=Z):=⟨_,rfl⟩
      rw [HZ.out] at hpc
      have hgw:g < wr.heap.size:=World.block_lt_of_cell? wr ⟨g,o+lo,none⟩ c0
      have hBs:=blkLt HI.out.box
      have K1:=hid c1
      have K2:=hid c2
      clear c1 c2
      go_region_held3 (fun W=>W.cell? ⟨g,o+lo,none⟩=some (.pointer (some ⟨q.P,0,none⟩))/\W.cell? ⟨B,0,none⟩=some (.int .i64 f)/\W.cell? ⟨B,1,none⟩=some (.int .i64 l)) (go_keep) (first | (go_at_call 165;refine (hpc wr.drew K1.out K2.out).mono ?_;rintro e W3 ⟨rfl,hb3⟩;have k0:W3.cell? ⟨g,o+lo,none⟩=some (.pointer (some ⟨q.P,0,none⟩)):=(hb3.cell (p:=⟨g,o+lo,none⟩) hgw).trans c0;have k1:W3.cell? ⟨B,0,none⟩=some (.int .i64 f):=(hb3.cell (p:=⟨B,0,none⟩) hBs).trans y0;have k2:W3.cell? ⟨B,1,none⟩=some (.int .i64 l):=(hb3.cell (p:=⟨B,1,none⟩) hBs).trans y1))
      have HI3:Hid (BInv w W3 B qs f l lo lo):=⟨HI.out.le,HI.out.len,HI.out.less,HI.out.more,HI2.out.below.trans (hb3.mono (by show B<=wr.heap.size;omega)),blkBelow HI2.out.box hb3⟩
      clear hpc hb3 c0 y0 y1 k0 k1 k2
      go_wp2
      go_ret2
      refine ⟨lo,h2,HI3.out.less,HI3.out.more,⟨(Z == 0),rfl,?_⟩,by rw [HBe.out];exact HI3.out.below⟩
      constructor
      . intro h
        exact ⟨q,HQ.out,by rw [HZ.out];simpa using h⟩
      . rintro ⟨q',hq',h0⟩
        rw [HQ.out] at hq'
        cases hq'
        rw [HZ.out] at h0
        simpa using h0
    . have hd:decide ((lo:Int) < (qs.length:Int))=false:=by simpa using hn
      go_quiet (fail)
      go_wp2
      go_ret2
      refine ⟨lo,h2,HI.out.less,HI.out.more,⟨false,rfl,?_⟩,by rw [HBe.out];exact below_drewN HI.out.below nq⟩
      refine ⟨fun h=>(by cases h),?_⟩
      rintro ⟨q',hq',h0⟩
      rw [List.getElem?_eq_none (by omega)] at hq'
      cases hq'
end Go.Proofs.YtcfngdnmpogaoaaGreat
namespace Go.Proofs.YtcfngdnmpogaoaaGreat
open Go.RowKit
set_option maxHeartbeats 3200000
set_option maxRecDepth 20000
theorem Row.put {w:World} {e:TypeId} {sz g off n cap:Nat} {xs:List Value} (h:Row w e sz (.slice (some ⟨g,off,none⟩) n cap) xs) (j:Nat) (hj:j < xs.length) (u:Value):Row (w.setCell ⟨g,off+j,none⟩ u) e sz (.slice (some ⟨g,off,none⟩) n cap) (xs.set j u):=by
 rcases h with ⟨h,_⟩ | ⟨g',off',n',cap',cur,hv,hg,r1,r2,r3,r4,r5⟩
 . simp at h
 . simp only [Value.slice.injEq,Option.some.injEq,Addr.mk.injEq] at hv
   obtain ⟨⟨rfl,rfl,_⟩,rfl,rfl⟩:=hv
   have h9:n*sz<=cap*sz:=Nat.mul_le_mul_right sz r1
   refine .inr ⟨g,off,n,cap,_,rfl,heap_setCell_same w g (off+j) cur e u hg,r1,r2,by simpa using r3,by simpa using r4,fun i hi=>?_⟩
   rw [Array.getElem?_setIfInBounds,List.getElem?_set]
   by_cases hij:j=i
   . subst hij
     rw [if_pos rfl,if_pos rfl,if_pos (by omega),if_pos hj]
   . rw [if_neg (by omega),if_neg hij]
     exact r5 i hi
theorem signs_step (m:Int) (xs:List Value) (k:Nat) (h:k < xs.length):(signs m k++xs.drop k).set k (.int .u8 (signZ m (k:Int)))=signs m (k+1)++xs.drop (k+1):=by
 have hl:=signs_len m k
 rw [List.set_append,if_neg (by omega),hl,Nat.sub_self,List.drop_eq_getElem_cons h,List.set_cons_zero,signs_snoc]
 simp
theorem Row.drewn {w:World} {e:TypeId} {sz:Nat} {v:Value} {xs:List Value} (h:Row w e sz v xs):Row w.drew e sz v xs:=h
theorem tags_step (m:Int) (xs:List Value) (k:Nat) (h:k < xs.length):(tagsOf m k++xs.drop k).set k (.int .u32 (u32of m))=tagsOf m (k+1)++xs.drop (k+1):=by
 have hl:=tagsOf_len m k
 rw [List.set_append,if_neg (by omega),hl,Nat.sub_self,List.drop_eq_getElem_cons h,List.set_cons_zero,tagsOf_snoc]
 simp
theorem win_step (m:Int) (xs:List Value) (k:Nat) (h:k*7+7<=xs.length):(((((((winOf m k++xs.drop (k*7)).set (k*7) (.string ⟨#[]⟩)).set (k*7+1) (.int .i64 0)).set (k*7+2) (.int .i64 (wrap64 (-m)))).set (k*7+3) (.int .i64 0)).set (k*7+4) (.int .i64 0)).set (k*7+5) (.int .i64 0)).set (k*7+6) (.slice none 0 0)=winOf m (k+1)++xs.drop ((k+1)*7):=by
 have hl:=winOf_len m k
 rw [show (k+1)*7=k*7+7 by omega,winOf_snoc,List.append_assoc]
 generalize winOf m k=A at *
 have hd:xs.drop (k*7+7)=(xs.drop (k*7)).drop 7:=by rw [List.drop_drop]
 rw [hd]
 have hB:7<=(xs.drop (k*7)).length:=by rw [List.length_drop];omega
 generalize xs.drop (k*7)=B at *
 match B,hB with
 | b0 :: b1 :: b2 :: b3 :: b4 :: b5 :: b6 :: r,_=>
   have e0:∀ j (v:Value) (C:List Value),(A++C).set (k*7+j) v=A++C.set j v:=fun j v C=>by
    rw [List.set_append,if_neg (by omega)];congr 2;omega
   have e1:=e0 0 (.string ⟨#[]⟩)
   rw [Nat.add_zero] at e1
   rw [e1,e0,e0,e0,e0,e0,e0]
   rfl
theorem marks_gen (hb:Nat) (m:Int) (vb vt vw:Value) (xs ts ws:List Value) (nw:Nat) (w:World) (hblk:w.heap[hb]?=some (.cells #[vb,vt,vw,.int .i64 m] 135 (0,0))) (hrow:Row w 5 1 vb xs) (hrt:Row w 26 1 vt ts) (hrw:Row w 70 7 vw ws) (hl:xs.length<=9223372036854775807) (hlt9:ts.length<=9223372036854775807) (hlw:nw<=9223372036854775807) (hnw:ws.length=nw*7) :
 Calls Tryz.prog 82 #[.pointer (some ⟨hb,0,none⟩)] w fun e w'=>(∃ v,e=.returned v)/\Row w' 5 1 vb (signs m xs.length)/\Row w' 26 1 vt (tagsOf m ts.length)/\Row w' 70 7 vw (winOf m nw)/\Kept (fun k=>vb.ownBlock=some k\/vt.ownBlock=some k\/vw.ownBlock=some k) w w':=by
 obtain ⟨ab,cb,hvb,-⟩:=hrow.len (by decide)
 obtain ⟨at_,ct,hvt,-⟩:=hrt.len (by decide)
 obtain ⟨aw,cw,hvw,-⟩:=hrw.len (by decide)
 rw [Nat.div_one] at hvb hvt
 rw [hnw,Nat.mul_div_cancel _ (by decide)] at hvw
 subst hvb
 subst hvt
 subst hvw
 have hlt:=(hold_cells hblk).2.2.2.2.2
 generalize hn:xs.length=n at *
 generalize hnt:ts.length=nt at *
 have Hn:=hid hn
 have Hnt:=hid hnt
 have Hnw:=hid hnw
 clear hn hnt hnw
 obtain ⟨X,HX⟩:∃ X:Nat->Prop,Hid (X=fun k=>(Value.slice ab n cb).ownBlock=some k\/(Value.slice at_ nt ct).ownBlock=some k\/(Value.slice aw nw cw).ownBlock=some k):=⟨_,rfl⟩
 have HXb:Hid (∀ k,(Value.slice ab n cb).ownBlock=some k->X k):=by intro k e;rw [HX.out];exact .inl e
 have HXt:Hid (∀ k,(Value.slice at_ nt ct).ownBlock=some k->X k):=by intro k e;rw [HX.out];exact .inr (.inl e)
 have HXw:Hid (∀ k,(Value.slice aw nw cw).ownBlock=some k->X k):=by intro k e;rw [HX.out];exact .inr (.inr e)
 have HXh:Hid (¬ X hb):=by
  show ¬ X hb
  rw [HX.out]
  rintro (e | e | e)
  . exact hrow.ne_block hblk (by decide) e
  . exact hrt.ne_block hblk (by decide) e
  . exact hrw.ne_block hblk (by decide) e
 have HR:=hid hrow
 have HT:=hid hrt
 have HW:=hid hrw
 have HC:Hid (∀ wr,Kept X w wr->wr.heap[hb]?=some (.cells #[.slice ab n cb,.slice at_ nt ct,.slice aw nw cw,.int .i64 m] 135 (0,0))):=fun wr hk=>
  (hk.block hb hlt HXh.out).trans hblk
 rw [<- HX.out]
 clear hrow hrt hrw hblk
 go_enter Tryz.func82,Tryz.ntmps82
 go_wp2
 go_loopw [2] (fun i wr=>∃ k:Nat,k<=n/\i=.int .i64 (k:Int)/\Row wr 5 1 (.slice ab n cb) (signs m k++xs.drop k)/\Kept (fun k=>(Value.slice ab n cb).ownBlock=some k) w wr) (fun i _=>n - (intOf i).toNat)
 case atStart=>exact ⟨0,Nat.zero_le _,rfl,by simpa [signs] using HR.out,Kept.refl _ _⟩
 case round=>
  obtain ⟨k,hk,rfl,hr,hkp⟩:=hrel
  have hblk:=HC.out _ (hkp.mono (fun k _ e=>HXb.out k e))
  obtain ⟨c0,c1,c2,c3,fz,hltr⟩:=hold_cells hblk
  have Hr:=hid hr
  have Hkp:=hid hkp
  by_cases hkn:k < n
  . obtain ⟨g,off,rfl⟩:=slice_some hr (by omega)
    have hne:=hr.ne_block hblk (by decide)
    have hgh:¬ g=hb:=fun h=>hne (by rw [h];rfl)
    have hgh':¬ hb=g:=fun h=>hgh h.symm
    have hxl:(signs m k++xs.drop k).length=n:=by rw [List.length_append,signs_len,List.length_drop,Hn.out];omega
    have hcell:=hr.cell k (by omega)
    obtain ⟨old,ho⟩:∃ old,(signs m k++xs.drop k)[k]?=some old:=⟨_,List.getElem?_eq_getElem (by omega)⟩
    rw [ho] at hcell
    have hfz:=hr.frozen (off+k)
    clear hr hkp hblk hne ho
    go_wp2
    go_region_held3 (fun W=>W.cell? ⟨hb,0,none⟩=some (.slice (some ⟨g,off,none⟩) n cb)/\W.cell? ⟨hb,3,none⟩=some (.int .i64 m)) (go_keep) (first | (go_at_call 86;refine (sign_any _ _ _).mono ?_;rintro e w' ⟨rfl,rfl⟩))
    go_wp2
    go_roundw
    case rel=>
     refine ⟨k+1,by omega,by go_num,?_,(Hkp.out.setCell ⟨g,off+k,none⟩ _ (fun _=>rfl)).drew⟩
     have:=Hr.out.put k (by omega) (.int .u8 (signZ m (k:Int)))
     rw [signs_step m xs k (by rw [Hn.out];exact hkn)] at this
     exact this
    case measure=>simp [intOf];omega
  . clear hr hkp
    have hkn':k=n:=by omega
    subst hkn'
    have Hr1:Hid (Row wr 5 1 (.slice ab k cb) (signs m k)):=by
     have:=Hr.out
     rw [List.drop_of_length_le (by rw [Hn.out];exact Nat.le_refl _),List.append_nil] at this
     exact this
    have HT1:=hid (HT.out.kept Hkp.out (fun j hj e=>HT.out.apart HR.out (by decide) hj e))
    have HW1:=hid (HW.out.kept Hkp.out (fun j hj e=>HW.out.apart HR.out (by decide) hj e))
    have HK1:Hid (Kept X w wr):=Hkp.out.mono (fun k _ e=>HXb.out k e)
    clear Hr Hkp HT HW HR Hn
    go_wp2
    clear c0 c1 c2 c3 fz hblk
    go_loopw [3] (fun i wr=>∃ j:Nat,j<=nt/\i=.int .i64 (j:Int)/\Row wr 26 1 (.slice at_ nt ct) (tagsOf m j++ts.drop j)/\Row wr 5 1 (.slice ab k cb) (signs m k)/\Row wr 70 7 (.slice aw nw cw) ws/\Kept X w wr) (fun i _=>nt - (intOf i).toNat)
    case atStart=>exact ⟨0,Nat.zero_le _,rfl,by simpa [tagsOf] using HT1.out,Hr1.out,HW1.out,HK1.out⟩
    case round=>
     clear Hr1 HT1 HW1 HK1
     obtain ⟨j,hj,rfl,hr,hrb,hrw,hkp⟩:=hrel
     have hblk:=HC.out _ hkp
     obtain ⟨c0,c1,c2,c3,fz,hltr⟩:=hold_cells hblk
     have Hr:=hid hr
     have Hrb:=hid hrb
     have Hrw:=hid hrw
     have Hkp:=hid hkp
     by_cases hjn:j < nt
     . obtain ⟨g,off,rfl⟩:=slice_some hr (by omega)
       have hne:=hr.ne_block hblk (by decide)
       have hgh:¬ g=hb:=fun h=>hne (by rw [h];rfl)
       have hgh':¬ hb=g:=fun h=>hgh h.symm
       have hxl:(tagsOf m j++ts.drop j).length=nt:=by rw [List.length_append,tagsOf_len,List.length_drop,Hnt.out];omega
       have hcell:=hr.cell j (by omega)
       obtain ⟨old,ho⟩:∃ old,(tagsOf m j++ts.drop j)[j]?=some old:=⟨_,List.getElem?_eq_getElem (by omega)⟩
       rw [ho] at hcell
       have hfz:=hr.frozen (off+j)
       have Hgb:Hid (∀ i,(Value.slice ab k cb).ownBlock=some i->¬ i=g):=fun i hi e=>hrb.apart hr (by decide) hi (by rw [e];rfl)
       have Hgw:Hid (∀ i,(Value.slice aw nw cw).ownBlock=some i->¬ i=g):=fun i hi e=>hrw.apart hr (by decide) hi (by rw [e];rfl)
       have hum:IntKind.u32.wrap m=u32of m:=rfl
       clear hr hkp hblk hne ho hrb hrw
       go_wp2
       go_region
       all_goals go_wp2
       go_roundw
       case rel=>
        have hk2:Kept (fun i=>i=g) wr ((wr.setCell ⟨g,off+j,none⟩ (.int .u32 (u32of m))).drew):=((Kept.refl (fun i=>i=g) wr).setCell ⟨g,off+j,none⟩ _ (fun _=>rfl)).drew
        refine ⟨j+1,by omega,by go_num,?_,Hrb.out.kept hk2 Hgb.out,Hrw.out.kept hk2 Hgw.out,Hkp.out.step hk2 (fun i _ e=>HXt.out i (by rw [e];rfl))⟩
        have:=Hr.out.put j (by omega) (.int .u32 (u32of m))
        rw [tags_step m ts j (by rw [Hnt.out];exact hjn)] at this
        exact this
       case measure=>simp [intOf];omega
     . clear hr hrb hrw hkp
       have hjn':j=nt:=by omega
       subst hjn'
       have Hr1:Hid (Row wr 26 1 (.slice at_ j ct) (tagsOf m j)):=by
        have:=Hr.out
        rw [List.drop_of_length_le (by rw [Hnt.out];exact Nat.le_refl _),List.append_nil] at this
        exact this
       clear Hr Hnt
       go_wp2
       clear c0 c1 c2 c3 fz hblk
       go_loopw [4] (fun i wr=>∃ l:Nat,l<=nw/\i=.int .i64 (l:Int)/\Row wr 70 7 (.slice aw nw cw) (winOf m l++ws.drop (l*7))/\Row wr 5 1 (.slice ab k cb) (signs m k)/\Row wr 26 1 (.slice at_ j ct) (tagsOf m j)/\Kept X w wr) (fun i _=>nw - (intOf i).toNat)
       case atStart=>exact ⟨0,Nat.zero_le _,rfl,by simpa [winOf] using Hrw.out,Hrb.out,Hr1.out,Hkp.out⟩
       case round=>
        clear Hr1 Hrb Hrw Hkp
        obtain ⟨l,hl9,rfl,hr,hrb,hrt,hkp⟩:=hrel
        have hblk:=HC.out _ hkp
        obtain ⟨c0,c1,c2,c3,fz,hltr⟩:=hold_cells hblk
        have Hr:=hid hr
        have Hrb:=hid hrb
        have Hrt:=hid hrt
        have Hkp:=hid hkp
        by_cases hln:l < nw
        . obtain ⟨g,off,rfl⟩:=slice_some hr (by omega)
          have hne:=hr.ne_block hblk (by decide)
          have hgh:¬ g=hb:=fun h=>hne (by rw [h];rfl)
          have hgh':¬ hb=g:=fun h=>hgh h.symm
          have hxl:(winOf m l++ws.drop (l*7)).length=nw*7:=by rw [List.length_append,winOf_len,List.length_drop,Hnw.out];omega
          have hq:∀ i,i < 7->∃ v,wr.cell? ⟨g,off+(l*7+i),none⟩=some v:=fun i hi=>by
           rw [hr.cell (l*7+i) (by omega)]
           exact ⟨_,List.getElem?_eq_getElem (by omega)⟩
          have hfz:=hr.frozen
          obtain ⟨y0,q0⟩:=hq 0 (by omega)
          obtain ⟨y1,q1⟩:=hq 1 (by omega)
          obtain ⟨y2,q2⟩:=hq 2 (by omega)
          obtain ⟨y3,q3⟩:=hq 3 (by omega)
          obtain ⟨y4,q4⟩:=hq 4 (by omega)
          obtain ⟨y5,q5⟩:=hq 5 (by omega)
          obtain ⟨y6,q6⟩:=hq 6 (by omega)
          simp only [Nat.add_zero,<- Nat.add_assoc] at q0 q1 q2 q3 q4 q5 q6
          have Hgb:Hid (∀ i,(Value.slice ab k cb).ownBlock=some i->¬ i=g):=fun i hi e=>hrb.apart hr (by decide) hi (by rw [e];rfl)
          have Hgt:Hid (∀ i,(Value.slice at_ j ct).ownBlock=some i->¬ i=g):=fun i hi e=>hrt.apart hr (by decide) hi (by rw [e];rfl)
          have hneg:IntKind.i64.wrap (-m)=wrap64 (-m):=IntWalk.i64_left _
          clear hr hkp hblk hne hrb hrt hq
          go_wp2
          go_region
          all_goals go_wp2
          go_roundw
          case rel=>
           have p0:=Hr.out.put (l*7) (by omega) (.string ⟨#[]⟩)
           have p1:=p0.put (l*7+1) (by rw [List.length_set];omega) (.int .i64 0)
           have p2:=p1.put (l*7+2) (by simp only [List.length_set];omega) (.int .i64 (wrap64 (-m)))
           have p3:=p2.put (l*7+3) (by simp only [List.length_set];omega) (.int .i64 0)
           have p4:=p3.put (l*7+4) (by simp only [List.length_set];omega) (.int .i64 0)
           have p5:=p4.put (l*7+5) (by simp only [List.length_set];omega) (.int .i64 0)
           have p6:=p5.put (l*7+6) (by simp only [List.length_set];omega) (.slice none 0 0)
           rw [win_step m ws l (by rw [Hnw.out];omega)] at p6
           simp only [<- Nat.add_assoc] at p6
           have kf:∀ (W:World) (o:Nat) (v:Value),Kept (fun i=>i=g) wr W->Kept (fun i=>i=g) wr (W.setCell ⟨g,o,none⟩ v):=fun W o v h=>h.setCell ⟨g,o,none⟩ v (fun _=>rfl)
           have k6:=(kf _ (off+l*7+6) (.slice none 0 0) (kf _ (off+l*7+5) (.int .i64 0) (kf _ (off+l*7+4) (.int .i64 0) (kf _ (off+l*7+3) (.int .i64 0) (kf _ (off+l*7+2) (.int .i64 (wrap64 (-m))) (kf _ (off+l*7+1) (.int .i64 0) (kf _ (off+l*7) (.string ⟨#[]⟩) (Kept.refl (fun i=>i=g) wr)))))))).drew
           have p7:=Row.drewn p6
           exact ⟨l+1,by omega,by go_num,p7,Hrb.out.kept k6 Hgb.out,Hrt.out.kept k6 Hgt.out,Hkp.out.step k6 (fun i _ e=>HXw.out i (by rw [e];rfl))⟩
          case measure=>simp [intOf];omega
        . clear hr hrb hrt hkp
          have hln':l=nw:=by omega
          subst hln'
          go_wp2
          go_end0
          have:=Hr.out
          rw [List.drop_of_length_le (by rw [Hnw.out];exact Nat.le_refl _),List.append_nil] at this
          exact ⟨⟨_,rfl⟩,Hrb.out,Hrt.out,this,Hkp.out⟩
end Go.Proofs.YtcfngdnmpogaoaaGreat
namespace Go.Proofs.YtcfngdnmpogaoaaGreat
open Go.RowKit
set_option maxHeartbeats 1600000
set_option maxRecDepth 20000
theorem wpList_copy {P:Program} {w:World} {ops:Array Oper} {rest:List Oper} {o:Oper} {a:Act} {Q:Exit->Act->World->Prop} (d s:Operand) (t t':TypeId)
 (ho:o.op=.call { callee:=.builtin .copy,args:=#[d,s],argTypes:=#[t,t'] }) (hgd:o.guard=none) (v u:Value) (hd:a.eval d=v) (hs:a.eval s=u) {v':Value} {w':World}
 (hr:(Builtin.copy_ #[t,t'] o.type #[v,u]).run P w=.ok v' w') (h:wpList P ops Q rest (a.put o.dst v') w'):wpList P ops Q (o :: rest) a w:=
 wpList_plain hgd fun _ hK=>by
  unfold Oper.wp execOp
  simp only [ho,resolve,invoke,builtin,Sem.run_bind,Sem.run_pure,Result.andThen_ok,List.map_toArray,List.map_cons,List.map_nil,hd,hs,hr]
  exact hK _ _ h
def lentBytes (s:ByteArray):List UInt8:=s.data.toList++List.replicate 8 201
theorem fill_step (l:List Value) (k:Nat) (x z:Value) (h:k < 8):(l++(List.replicate k x++List.replicate (8 - k) z)).set (l.length+k) x=l++(List.replicate (k+1) x++List.replicate (8 - (k+1)) z):=by
 rw [List.set_append,if_neg (by omega),List.set_append,if_neg (by simp),List.length_replicate,show l.length+k - l.length - k=0 from by omega,show 8 - k=(8 - (k+1))+1 from by omega,List.replicate_succ,List.set_cons_zero,List.replicate_succ']
 simp
theorem lent_any (s:ByteArray) (w:World) (hs:s.size+8<=140737488355328) :
 Calls Tryz.prog 56 #[.string s] w fun e w'=>∃ g,e=.returned (.slice (some ⟨g,0,none⟩) (s.size+8) (s.size+8))/\w.heap.size<=g/\Row w' 5 1 (.slice (some ⟨g,0,none⟩) (s.size+8) (s.size+8)) ((lentBytes s).map byteV)/\Below w.heap.size w w':=by
 obtain ⟨i5,hi5,hz50,hz51,hz52⟩:=info_parts info5
 have hmk:(Instr.makeSlice 30 (.int .i64 ((s.size:Int)+8)) (.int .i64 ((s.size:Int)+8))).run Tryz.prog w =
  .ok (.slice (some ⟨w.heap.size,0,none⟩) (s.size+8) (s.size+8)) (w.alloc (.cells (madeCells #[.int .u8 0] (s.size+8)) 5)):=by
  have h:=run_make (P:=Tryz.prog) w 30 5 i5 (.int .u8 0) Tryz.underlying30 hi5 hz50 .i64 .i64 ((s.size:Int)+8) ((s.size:Int)+8) (by omega) (Int.le_refl _) (by rw [hz52];omega) (by omega)
  have e:((s.size:Int)+8).toNat=s.size+8:=by omega
  rw [e] at h
  simpa [hz51,Value.cells] using h
 have hcur:(w.alloc (.cells (madeCells #[.int .u8 0] (s.size+8)) 5)).heap[w.heap.size]?=some (.cells (madeCells #[.int .u8 0] (s.size+8)) 5 (0,0)):=heap_alloc_new w _
 have hml:(madeCells #[Value.int .u8 0] (s.size+8)).toList=List.replicate (s.size+8) (Value.int .u8 0):=toList_madeCells_one _ _
 have hms:(madeCells #[Value.int .u8 0] (s.size+8)).size=s.size+8:=by rw [<- Array.length_toList,hml,List.length_replicate]
 have hcp:=Lib.run_copy_row_string (P:=Tryz.prog) (w.alloc (.cells (madeCells #[.int .u8 0] (s.size+8)) 5)) 30 9 3 5 w.heap.size 0 (s.size+8) (s.size+8) s _ 5 Tryz.underlying30 (by rw [hi5];simp [hz51]) hcur (by omega) (by rw [hms];omega)
 rw [hml] at hcp
 have hbz:Lib.byteCells s.data.toList=s.data.toList.map byteV:=rfl
 have hbl:(s.data.toList.map byteV).length=s.size:=by rw [List.length_map,Array.length_toList];rfl
 have harr:(List.take 0 (List.replicate (s.size+8) (Value.int .u8 0))++Lib.byteCells s.data.toList++List.drop (0+s.size) (List.replicate (s.size+8) (Value.int .u8 0)))=s.data.toList.map byteV++List.replicate 8 (Value.int .u8 0):=by
  rw [hbz,List.take_zero,List.nil_append,Nat.zero_add,List.drop_replicate,show s.size+8 - s.size=8 from by omega]
 rw [harr] at hcp
 have hW2:=setRow_heap _ w.heap.size _ (s.data.toList.map byteV++List.replicate 8 (Value.int .u8 0)).toArray 5 (0,0) hcur
 have hb2:Below w.heap.size w ((w.alloc (.cells (madeCells #[.int .u8 0] (s.size+8)) 5)).setRow w.heap.size (s.data.toList.map byteV++List.replicate 8 (Value.int .u8 0)).toArray):=by
  refine ((Below.refl _ w).alloc (Nat.le_refl _) _).trans ⟨rfl,rfl,rfl,by simp,fun k hk=>setRow_other _ _ _ _ (by omega)⟩
 generalize (w.alloc (.cells (madeCells #[.int .u8 0] (s.size+8)) 5)).setRow w.heap.size (s.data.toList.map byteV++List.replicate 8 (Value.int .u8 0)).toArray=W2 at *
 have hrow:Row W2 5 1 (.slice (some ⟨w.heap.size,0,none⟩) (s.size+8) (s.size+8)) (s.data.toList.map byteV++(List.replicate 0 (.int .u8 201)++List.replicate (8 - 0) (.int .u8 0))):=by
  refine .inr ⟨w.heap.size,0,s.size+8,s.size+8,_,rfl,hW2,Nat.le_refl _,by simp only [maxLen];omega,by simp [hbl],by simp [hbl],fun j hj=>by simp⟩
 have Hcp:=hid hcp
 clear hcp hcur hml hms hW2 harr hbz
 have Hbl:=hid hbl
 clear hbl
 obtain ⟨L,HL⟩:∃ L,Hid (s.data.toList.map byteV=L):=⟨_,rfl⟩
 rw [HL.out] at hrow
 have HLl:Hid (L.length=s.size):=by show _=_;rw [<- HL.out];exact Hbl.out
 go_enter Tryz.func56,Tryz.ntmps56
 go_wp2_with (first | (refine wpList_copy _ _ _ _ rfl rfl _ _ rfl rfl Hcp.out ?_))
 go_loopw [4] (fun i wr=>∃ k:Nat,k<=8/\i=.int .i64 ((s.size:Int)+(k:Int))/\Row wr 5 1 (.slice (some ⟨w.heap.size,0,none⟩) (s.size+8) (s.size+8)) (L++(List.replicate k (.int .u8 201)++List.replicate (8 - k) (.int .u8 0)))/\Below w.heap.size w wr) (fun i _=>s.size+8 - (intOf i).toNat)
 case atStart=>exact ⟨0,by omega,by simp,hrow,hb2⟩
 case round=>
  obtain ⟨k,hk,rfl,hr,hb⟩:=hrel
  have Hr:=hid hr
  have Hb:=hid hb
  by_cases hk8:k < 8
  . have hxl:(L++(List.replicate k (Value.int .u8 201)++List.replicate (8 - k) (Value.int .u8 0))).length=s.size+8:=by rw [List.length_append,HLl.out];simp;omega
    have hcell:=hr.cell (s.size+k) (by omega)
    obtain ⟨old,ho⟩:∃ old,(L++(List.replicate k (Value.int .u8 201)++List.replicate (8 - k) (Value.int .u8 0)))[s.size+k]?=some old:=⟨_,List.getElem?_eq_getElem (by omega)⟩
    rw [ho,Nat.zero_add] at hcell
    have hfz:=hr.frozen (s.size+k)
    clear hr hb hrow hb2 ho
    go_wp2
    go_roundw
    case rel=>
     refine ⟨k+1,by omega,by rw [show (s.size:Int)+(k:Int)+1=(s.size:Int)+((k+1:Nat):Int) from by omega],?_,Hb.out.setCell (Nat.le_refl _) _⟩
     have:=Hr.out.put (L.length+k) (by rw [HLl.out];omega) (.int .u8 201)
     rw [fill_step L k _ _ hk8,HLl.out,Nat.zero_add] at this
     exact this
    case measure=>simp [intOf];omega
  . have hk':k=8:=by omega
    subst hk'
    clear hr hb hrow hb2
    go_wp2
    go_ret
    refine ⟨w.heap.size,rfl,Nat.le_refl _,?_,Hb.out⟩
    have:=Hr.out
    rw [<- HL.out] at this
    rw [lentBytes,List.map_append]
    exact this
end Go.Proofs.YtcfngdnmpogaoaaGreat
namespace Go.Proofs.YtcfngdnmpogaoaaGreat
open Go.RowKit
set_option maxHeartbeats 1600000
set_option maxRecDepth 20000
theorem still_any (b off cap:Nat) (s:ByteArray) (n:Nat) (w:World) (_hs:s.size<=n) (hn:n<=9223372036854775807) (h1:∀ j (h:j < s.size),w.cell? ⟨b,off+j,none⟩=some (.int .u8 (s[j].toNat:Int))) (h2:∀ j,s.size<=j->j < n->w.cell? ⟨b,off+j,none⟩=some (.int .u8 201)) :
 Calls Tryz.prog 58 #[.slice (some ⟨b,off,none⟩) n cap,.string s] w fun e w'=>e=.returned (.bool true)/\∃ m,w'=w.drewN m:=by
 have H1:=hid h1
 have H2:=hid h2
 clear h1 h2
 go_enter Tryz.func58,Tryz.ntmps58
 go_wp2
 go_loopw [5] (fun i wr=>∃ k:Nat,k<=n/\i=.int .i64 (k:Int)/\∃ m,wr=w.drewN m) (fun i _=>n - (intOf i).toNat)
 case atStart=>exact ⟨0,Nat.zero_le _,rfl,0,rfl⟩
 case round=>
  obtain ⟨k,hk,rfl,m,rfl⟩:=hrel
  by_cases hkn:k < n
  . by_cases hks:k < s.size
    . have hcell:=H1.out k hks
      have hdk:decide (s.size<=k)=false:=decide_eq_false (by omega)
      go_wp2
      go_quiet (fail)
      go_wp2
      go_roundw
      case rel=>exact ⟨k+1,by omega,by go_num,m+nq,by simp⟩
      case measure=>simp [intOf];omega
    . have hcell:=H2.out k (by omega) hkn
      have hdk2:decide (s.size<=k)=true:=decide_eq_true (by omega)
      have hkI:(s.size:Int)<=(k:Int):=by omega
      have hdk:decide (k < s.size)=false:=decide_eq_false (by omega)
      go_wp2
      go_quiet (fail)
      go_wp2
      go_roundw
      case rel=>exact ⟨k+1,by omega,by go_num,m+nq,by simp⟩
      case measure=>simp [intOf];omega
  . go_wp2
    go_ret
    exact ⟨rfl,m,rfl⟩
end Go.Proofs.YtcfngdnmpogaoaaGreat
