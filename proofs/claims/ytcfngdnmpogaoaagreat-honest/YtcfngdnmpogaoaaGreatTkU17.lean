import Derived.Test.YtcfngdnmpogaoaaGreatTkU16
import Derived.Test.YtcfngdnmpogaoaaGreatTkU12
namespace Go.Proofs.YtcfngdnmpogaoaaGreat
open Go.RowKit
set_option maxHeartbeats 12800000
set_option maxRecDepth 20000
def RCells.setLine (r:RCells) (t:Int):RCells:={ r with line:=t,lined:=true }
def RCells.setDone (r:RCells) (v:Value):RCells:={ r with done:=v }
structure LnInv (w wr:World) (ws:List Win) (v:Value):Prop where
 below:Below w.heap.size w wr
 wins:∃ xs,WinsAt wr v xs w.heap.size/\xs.map WinX.w=ws
structure LnPost (w w':World) (g:Nat) (r:RCells) (E:List Ev) (ds:List WinX) (r':RCells) (ds':List WinX):Prop where
 rev:REv w' g r' E
 done:WinsAt w' r'.done ds' 0
 kept:Kept (fun k=>k=g\/r.done.ownBlock=some k) w w'
 own:∀ k,r'.done.ownBlock=some k->r.done.ownBlock=some k\/w.heap.size<=k
 tags:∀ x ∈ ds',x ∈ ds\/∀ k,x.tv.ownBlock=some k->w.heap.size<=k
def linesF (r:RCells) (_E:List Ev):Option Int:=if (leastR r.src).2 && !(r.lined && decide ((leastR r.src).1<=r.line)) then some (leastR r.src).1 else none
theorem WinsAt.srcAll {w:World} {v:Value} {xs:List WinX} {B:Nat} (h:WinsAt w v xs B):∃ a c,v=.slice a xs.length c/\Src Tryz.prog 7 54 v xs.length (xs.flatMap wxCells) w:=by
 rcases h.row with ⟨h1,h2⟩ | ⟨ge,off,n,cap,cur,h1,hg,h3,h4,h5,h6,h7⟩
 . have:=congrArg List.length h2
   rw [winFlat_len,List.length_nil] at this
   have hx:xs=[]:=List.eq_nil_of_length_eq_zero (by omega)
   subst hx
   exact ⟨none,0,h1,by rw [h1];exact Src.ofNil _ Tryz.underlying54 0⟩
 . rw [winFlat_len] at h6
   have hn:n=xs.length:=by omega
   subst hn
   refine ⟨_,cap,h1,?_⟩
   rw [h1] at h ⊢
   have:=h.src 0 xs.length cap (by omega)
   simpa using this
theorem lines_fin {w W2 wr W8:World} {g:Nat} {r:RCells} {E:List Ev} {ds xs:List WinX} {v dv:Value} {t:Int} (h:REv w g r E) (hd:WinsAt w r.done ds 0) (hk2:Kept (fun k=>k=g) w W2) (hr2:REv W2 g (r.setLine t) E) (hb:Below W2.heap.size W2 wr) (hw:WinsAt wr v xs W2.heap.size)
 (ha:App wr W8 70 7 r.done dv (ds.flatMap wxCells) (xs.flatMap wxCells)) (h0:xs.length=0->dv=r.done):LnPost w (W8.setCell ⟨g,47,none⟩ dv) g r E ds ((r.setLine t).setDone dv) (ds++xs):=by
 have hgd:r.done.ownBlock ≠ some g:=fun e=>(hd.row.cb e).ne (Cb.of h.rf.blk) (by decide) rfl
 have hge:r.events.ownBlock ≠ some g:=fun e=>(h.ev.cb e).ne (Cb.of h.rf.blk) (by decide) rfl
 have s2:=hk2.size
 have sb:=hb.size
 have d2:Row W2 70 7 r.done (ds.flatMap wxCells):=hd.row.kept hk2 (fun k hk e=>hgd (by rw [<- e];exact hk))
 have dr:Row wr 70 7 r.done (ds.flatMap wxCells):=d2.below hb (fun k hk=>(d2.blk_lt hk).1)
 have rr:REv wr g (r.setLine t) E:=hr2.below hb
 have hgl:=rr.rf.lt
 have hg8:W8.heap[g]?=wr.heap[g]?:=ha.grown.block g hgl (fun e=>hgd e.symm)
 have hgblk:W8.heap[g]?=some (.cells (r.setLine t).cells.toArray 140):=hg8.trans rr.rf.blk
 have kw:Kept (fun k=>k=g\/r.done.ownBlock=some k) w wr:=(hk2.mono (fun k _ e=>.inl e)).step (Kept.ofBelow hb (fun _=>False)) (fun _ _ e=>e.elim)
 have k8:Kept (fun k=>k=g\/r.done.ownBlock=some k) w W8:=kw.step (Kept.ofGrown ha.grown) (fun k _ e=>.inr e)
 have hev8:Row W8 28 5 r.events (E.flatMap evCells):=rr.ev.kept (Kept.ofGrown ha.grown) (fun k hk e=>rr.ev.apart dr (by decide) hk e)
 have htag:∀ x ∈ ds++xs,Row wr 26 1 x.tv (x.w.tags.map tagV):=fun x hx=>by
  rcases List.mem_append.1 hx with hx | hx
  . have h1:=(hd.tags x hx).1
    have h2:Row W2 26 1 x.tv (x.w.tags.map tagV):=h1.kept hk2 (fun k hk e=>by
     have:=(h1.cb hk).ne (Cb.of h.rf.blk) (by decide)
     exact this e)
    exact h2.below hb (fun k hk=>(h2.blk_lt hk).1)
  . exact (hw.tags x hx).1
 refine ⟨⟨?_,?_⟩,⟨?_,fun x hx=>⟨?_,fun _ _=>Nat.zero_le _⟩,fun _ _=>Nat.zero_le _,fun e=>?_⟩,?_,fun k hk=>?_,fun x hx=>?_⟩
 . exact (rr.rf.congr hg8).putTail 3 dv rfl rfl rfl
 . exact hev8.setCell _ _ (hev8.ne_block hgblk (by decide))
 . have:=ha.row
   rw [<- List.flatMap_append] at this
   exact this.setCell _ _ (this.ne_block hgblk (by decide))
 . have h1:=htag x hx
   have h2:Row W8 26 1 x.tv (x.w.tags.map tagV):=h1.kept (Kept.ofGrown ha.grown) (fun k hk e=>h1.apart dr (by decide) hk e)
   exact h2.setCell _ _ (h2.ne_block hgblk (by decide))
 . have hds:ds=[]:=by cases ds <;> simp_all
   have hxs:xs=[]:=by cases xs <;> simp_all
   show dv=_
   rw [h0 (by rw [hxs];rfl)]
   exact hd.void hds
 . exact k8.setCell ⟨g,47,none⟩ _ (fun _=>.inl rfl)
 . have hk':dv.ownBlock=some k:=hk
   rcases ha.step with ⟨e,_⟩ | ⟨e,_⟩
   . left;rw [<- e];exact hk'
   . right
     rw [hk'] at e
     simp only [Option.some.injEq] at e
     omega
 . rcases List.mem_append.1 hx with hx | hx
   . exact .inl hx
   . exact .inr (fun k hk=>Nat.le_trans s2 ((hw.tags x hx).2 k hk))
theorem lines_any (g:Nat) (r:RCells) (E:List Ev) (ds:List WinX) (w:World) (h:REv w g r E) (hd:WinsAt w r.done ds 0) (hE:E.length<=200000) (hev:∀ e ∈ E,evOk e) (hdl:ds.length<=1000000000) (hc1:1<=r.slide) (hc2:r.slide<=r.size) (hc3:r.size<=1099511627776) (hc4:r.size<=4096*r.slide) :
 Calls Tryz.prog 80 #[.pointer (some ⟨g,0,none⟩)] w fun e w'=>e=.returned (.tuple #[])/\((linesF r E=none/\REv w' g r E/\Below w.heap.size w w')\/∃ t dv xs,linesF r E=some t/\LnPost w w' g r E ds ((r.setLine t).setDone dv) (ds++xs)/\xs.map WinX.w=finAll r.size r.slide r.line t r.lined E E):=by
 obtain ⟨i,hi,hz0,hz1,hz2⟩:=info_parts info133
 have H:=hid h
 have HD:=hid hd
 have HEv:=hid hev
 have hglt:=h.rf.lt
 have HLF:Hid (linesF r E=if (leastR r.src).2 && !(r.lined && decide ((leastR r.src).1<=r.line)) then some (leastR r.src).1 else none):=rfl
 clear h hd hev
 go_enter Tryz.func80,Tryz.ntmps80
 go_wp2_with fail
 go_loopw [2,3,4] (fun a b c wx=>∃ (n:Nat),n<=8/\c=.int .i64 (n:Int)/\a=.bool (leastR (r.src.take n)).2/\b=.int .i64 (leastR (r.src.take n)).1/\Below w.heap.size w wx) (fun _ _ c _=>8 - (intOf c).toNat)
 case atStart=>exact ⟨0,Nat.zero_le _,rfl,rfl,rfl,Below.refl _ _⟩
 case round=>
  obtain ⟨n,hn,rfl,rfl,rfl,hB⟩:=hrel
  by_cases hlt:n < 8
  . obtain ⟨s,hs⟩:∃ s,r.src[n]?=some s:=⟨r.src[n]'(by rw [H.out.rf.len];exact hlt),List.getElem?_eq_getElem _⟩
    have hst:=leastR_take r.src n s hs
    have hrf:=H.out.rf.below hB hglt
    have c0:wr.cell? ⟨g,4+n*5,none⟩=some (.bool s.opened):=hrf.cell (r.srcAt n 0 s hs (by omega))
    have c1:wr.cell? ⟨g,4+n*5+1,none⟩=some (.bool s.broken):=hrf.cell (r.srcAt n 1 s hs (by omega))
    have c2:wr.cell? ⟨g,4+n*5+2,none⟩=some (.bool s.reached):=hrf.cell (r.srcAt n 2 s hs (by omega))
    have c3:wr.cell? ⟨g,4+n*5+3,none⟩=some (.int .i64 s.reach):=hrf.cell (r.srcAt n 3 s hs (by omega))
    have c4:wr.cell? ⟨g,4+n*5+4,none⟩=some (.string s.rest):=hrf.cell (r.srcAt n 4 s hs (by omega))
    have HSt:=hid hst
    have hBs:=hB.size
    have HB:=hid hB
    have hwn:IntKind.i64.wrap ((n:Int)+1)=(n:Int)+1:=by rw [IntKind.wrap_i64];omega
    have hn8:(n:Int) < 8:=by omega
    clear hst hrf hB
    generalize leastR (r.src.take n)=m at *
    obtain ⟨mt,mi⟩:=m
    simp only at *
    go_upto_region 6 with fail
    have HB1:Hid (Below w.heap.size w (wr.alloc (.cells #[.bool s.opened,.bool s.broken,.bool s.reached,.int .i64 s.reach,.string s.rest] 137))):=HB.out.alloc hBs _
    have hbx:=heap_alloc_new wr (.cells #[.bool s.opened,.bool s.broken,.bool s.reached,.int .i64 s.reach,.string s.rest] 137)
    obtain ⟨C,HC⟩:∃ C,Hid (wr.heap.size=C):=⟨_,rfl⟩
    rw [HC.out] at hbx ⊢
    generalize wr.alloc (.cells #[.bool s.opened,.bool s.broken,.bool s.reached,.int .i64 s.reach,.string s.rest] 137)=W1 at *
    have d0:W1.cell? ⟨C,0,none⟩=some (.bool s.opened):=blkCell hbx rfl
    have d1:W1.cell? ⟨C,1,none⟩=some (.bool s.broken):=blkCell hbx rfl
    have d2:W1.cell? ⟨C,2,none⟩=some (.bool s.reached):=blkCell hbx rfl
    have d3:W1.cell? ⟨C,3,none⟩=some (.int .i64 s.reach):=blkCell hbx rfl
    clear hbx c0 c1 c2 c3 c4
    go_cut [43] from 23 to 43 (fun s43 wx=>s43=.bool (rTest (mt,mi) s)/\W1=wx)
    case first=>
     have HTd:Hid (rTest (mt,mi) s=(s.opened && (!s.broken && (s.reached && (!mi || decide (s.reach < mt)))))):=rfl
     clear HSt HLF
     have Ho:Hid (s.opened=s.opened):=rfl
     obtain ⟨o,ho⟩:∃ o,s.opened=o:=⟨_,rfl⟩
     obtain ⟨b,hb⟩:∃ o,s.broken=o:=⟨_,rfl⟩
     obtain ⟨c,hr⟩:∃ o,s.reached=o:=⟨_,rfl⟩
     have HT0:Hid (rTest (mt,mi) s=(o && (!b && (c && (!mi || decide (s.reach < mt)))))):=by show _=_;rw [HTd.out,ho,hb,hr]
     rw [ho] at d0
     rw [hb] at d1
     rw [hr] at d2
     clear ho hb hr HTd Ho
     cases o with
     | false=>
       have HT:Hid (rTest (mt,mi) s=false):=by show _=_;rw [HT0.out];rfl
       go_wp2_with fail
       go_meet
       exact ⟨by rw [HT.out],rfl⟩
     | true=>
       cases b with
       | true=>
         have HT:Hid (rTest (mt,mi) s=false):=by show _=_;rw [HT0.out];rfl
         go_wp2_with fail
         go_meet
         exact ⟨by rw [HT.out],rfl⟩
       | false=>
         cases c with
         | false=>
           have HT:Hid (rTest (mt,mi) s=false):=by show _=_;rw [HT0.out];rfl
           go_wp2_with fail
           go_meet
           exact ⟨by rw [HT.out],rfl⟩
         | true=>
           cases mi with
           | false=>
             have HT:Hid (rTest (mt,false) s=true):=by show _=_;rw [HT0.out];rfl
             go_wp2_with fail
             go_meet
             exact ⟨by rw [HT.out],rfl⟩
           | true=>
             by_cases hlt2:s.reach < mt
             . have HT:Hid (rTest (mt,true) s=true):=by show _=_;rw [HT0.out,decide_eq_true hlt2];rfl
               go_wp2_with fail
               go_meet
               exact ⟨by rw [HT.out],rfl⟩
             . have HT:Hid (rTest (mt,true) s=false):=by show _=_;rw [HT0.out,decide_eq_false hlt2];rfl
               go_wp2_with fail
               go_meet
               exact ⟨by rw [HT.out],rfl⟩
    case rest=>
     obtain ⟨rfl,rfl⟩:=hcut
     cases ht:rTest (mt,mi) s with
     | true=>
       have HM:Hid (leastR (r.src.take (n+1))=(s.reach,true)):=by show _=_;rw [HSt.out,leastRStep,ht];rfl
       clear ht
       go_wp2_with fail
       go_roundw
       case rel=>exact ⟨n+1,by omega,by go_num,by rw [HM.out],by rw [HM.out],HB1.out⟩
       case measure=>simp [intOf];omega
     | false=>
       have HM:Hid (leastR (r.src.take (n+1))=(mt,mi)):=by show _=_;rw [HSt.out,leastRStep,ht];rfl
       clear ht
       go_wp2_with fail
       go_roundw
       case rel=>exact ⟨n+1,by omega,by go_num,by rw [HM.out],by rw [HM.out],HB1.out⟩
       case measure=>simp [intOf];omega
  . have hn8:n=8:=by omega
    subst hn8
    have htk:r.src.take 8=r.src:=List.take_of_length_le (by rw [H.out.rf.len];exact Nat.le_refl _)
    rw [htk]
    clear htk
    have hrf:=H.out.rf.below hB hglt
    have hBs:=hB.size
    have HB:=hid hB
    have c44:wr.cell? ⟨g,44,none⟩=some r.events:=hrf.tailAt 0 rfl
    have c45:wr.cell? ⟨g,45,none⟩=some (.bool r.lined):=hrf.tailAt 1 rfl
    have c46:wr.cell? ⟨g,46,none⟩=some (.int .i64 r.line):=hrf.tailAt 2 rfl
    have fz:∀ j,wr.frozen? ⟨g,j,none⟩=false:=hrf.frozen
    obtain ⟨ea,ec,hvv⟩:=H.out.shape
    have HRf:=hid hrf
    rw [hvv] at c44
    clear hB hrf
    obtain ⟨lt,hlt'⟩:∃ z,(leastR r.src).1=z:=⟨_,rfl⟩
    obtain ⟨ls,hls⟩:∃ z,(leastR r.src).2=z:=⟨_,rfl⟩
    rw [hlt',hls] at HLF ⊢
    clear hlt' hls
    by_cases hgo:(ls && !(r.lined && decide (lt<=r.line)))=true
    . have HGo:Hid (linesF r E=some lt):=by show _=_;rw [HLF.out,hgo];rfl
      clear HLF
      have hls:ls=true:=by cases ls <;> simp_all
      subst hls
      obtain ⟨ln,hln⟩:∃ z,r.lined=z:=⟨_,rfl⟩
      obtain ⟨was,hwas⟩:∃ z,r.line=z:=⟨_,rfl⟩
      have hgo2:ln=false\/¬ lt<=was:=by
       rw [hln,hwas] at hgo
       cases ln with
       | false=>exact .inl rfl
       | true=>right;simpa using hgo
      rw [hln] at c45
      rw [hwas] at c46
      have HLn:=hid hln
      have HWas:=hid hwas
      clear hln hwas hgo
      go_upto_region 9 with fail
      go_cut [61] from 46 to 61 (fun s61 wx=>s61=.bool false/\wr=wx)
      case first=>
       cases ln with
       | false=>
         clear hgo2
         go_wp2_with fail
         go_meet
         exact ⟨rfl,rfl⟩
       | true=>
         have hgo3:¬ lt<=was:=by rcases hgo2 with h | h;cases h;exact h
         clear hgo2
         go_wp2_with fail
         go_meet
         exact ⟨rfl,rfl⟩
      case rest=>
       obtain ⟨rfl,rfl⟩:=hcut
       have HRf2:Hid (RF ((wr.setCell ⟨g,46,none⟩ (.int .i64 lt)).setCell ⟨g,45,none⟩ (.bool true)) g (r.setLine lt)):=by
        have h1:RF (wr.setCell ⟨g,46,none⟩ (.int .i64 lt)) g { r with line:=lt }:=HRf.out.putTail 2 _ rfl rfl rfl
        exact h1.putTail 1 _ rfl rfl rfl
       have HK2:Hid (Kept (fun k=>k=g) w ((wr.setCell ⟨g,46,none⟩ (.int .i64 lt)).setCell ⟨g,45,none⟩ (.bool true))):=((Kept.ofBelow HB.out (fun k=>k=g)).setCell ⟨g,46,none⟩ _ (fun _=>rfl)).setCell ⟨g,45,none⟩ _ (fun _=>rfl)
       go_wp2_with fail
       generalize (wr.setCell ⟨g,46,none⟩ (.int .i64 lt)).setCell ⟨g,45,none⟩ (.bool true)=W2 at *
       have hgE:r.events.ownBlock ≠ some g:=fun e=>(H.out.ev.cb e).ne (Cb.of H.out.rf.blk) (by decide) rfl
       have HEv2:=hid (H.out.ev.kept HK2.out (fun k hk e=>hgE (by rw [<- e];exact hk)))
       have HR2:Hid (REv W2 g (r.setLine lt) E):=⟨HRf2.out,HEv2.out⟩
       have hgl2:=HRf2.out.lt
       clear c44 c45 c46 fz hgE
       go_loopw [8,9] (fun v c wx=>∃ (n:Nat),n<=E.length/\c=.int .i64 (n:Int)/\LnInv W2 wx (finAll r.size r.slide was lt ln E (E.take n)) v) (fun _ c _=>E.length - (intOf c).toNat)
       case atStart=>exact ⟨0,Nat.zero_le _,rfl,Below.refl _ _,[],⟨Row.nil _ _ _,fun x hx=>by simp at hx,fun k hk=>by simp [Value.ownBlock] at hk,fun _=>rfl⟩,rfl⟩
       case round=>
        obtain ⟨n,hn,rfl,hI⟩:=hrel
        have HI:=hid hI
        have hB2:=hI.below
        have hrv:=HR2.out.below hB2
        have c44:wr.cell? ⟨g,44,none⟩=some (.slice ea E.length ec):=by rw [<- hvv];exact hrv.rf.tailAt 0 rfl
        by_cases hlt2:n < E.length
        . have hx:E[n]?=some E[n]:=List.getElem?_eq_getElem hlt2
          have hgs:=finAll_take r.size r.slide was lt ln E E n _ hx
          have hek:=HEv.out E[n] (by simp)
          generalize E[n]=e at *
          obtain ⟨ge,eo,ec',hv,hgl,j0,j1,j2,j3,j4⟩:=hrv.item hx
          rw [show (r.setLine lt).events=r.events from rfl,hvv] at hv
          simp only [Value.slice.injEq] at hv
          obtain ⟨rfl,-,rfl⟩:=hv
          have hnl:(n:Int) < (E.length:Int):=by omega
          have hwn:IntKind.i64.wrap ((n:Int)+1)=(n:Int)+1:=by rw [IntKind.wrap_i64];omega
          have hBs2:=hB2.size
          clear hI
          go_upto_region 19 with fail
          have hb3:Below W2.heap.size W2 (wr.alloc (.cells #[.int .i64 1,.string e.key,.int .i64 e.t,.int .i64 e.v,.int .u32 (e.tag:Int)] 28)):=hB2.alloc hBs2 _
          have HI3:Hid (LnInv W2 (wr.alloc (.cells #[.int .i64 1,.string e.key,.int .i64 e.t,.int .i64 e.v,.int .u32 (e.tag:Int)] 28)) (finAll r.size r.slide was lt ln E (E.take n)) u8):=by
           obtain ⟨xs,hw,hm⟩:=HI.out.wins
           exact ⟨hb3,xs,hw.below ((Below.refl _ wr).alloc (Nat.le_refl _) _),hm⟩
          have hi1:=heap_alloc_new wr (.cells #[.int .i64 1,.string e.key,.int .i64 e.t,.int .i64 e.v,.int .u32 (e.tag:Int)] 28)
          obtain ⟨C,HC⟩:∃ C,Hid (wr.heap.size=C):=⟨_,rfl⟩
          rw [HC.out] at hi1 hBs2 ⊢
          generalize wr.alloc (.cells #[.int .i64 1,.string e.key,.int .i64 e.t,.int .i64 e.v,.int .u32 (e.tag:Int)] 28)=W3 at *
          have HIT:=hid hi1
          obtain ⟨d0,d1,d2,d3,d4⟩:=itemAt hi1
          have hrv3:=HR2.out.below hb3
          have s3:W3.cell? ⟨g,1,none⟩=some (.int .i64 r.slide):=hrv3.rf.headAt 1 rfl
          clear hi1 j0 j1 j2 j3 j4 c44 HC hb3 hB2 HI hrv hrv3
          have HGs:=hid hgs
          clear hgs hx
          obtain ⟨-,ht1,ht2⟩:=hek
          have hfl:=fun W=>floor_any e.t r.slide W hc1 (by omega) ht1 ht2
          have hst0:startAt r.slide e.t 0=down e.t r.slide:=by unfold startAt;simp
          rw [<- hst0] at hfl
          clear hst0
          go_quiet ((go_at_call 115;exact Calls.quiet_of_same (hfl _)))
          have HI4:Hid (LnInv W2 (W3.drewN nq) (finAll r.size r.slide was lt ln E (E.take n)) u8):=by
           obtain ⟨xs,hw,hm⟩:=HI3.out.wins
           exact ⟨below_drewN HI3.out.below _,xs,hw.below (below_drewN (Below.refl _ W3) _),hm⟩
          have HIT4:Hid ((W3.drewN nq).heap[C]?=some (.cells #[.int .i64 1,.string e.key,.int .i64 e.t,.int .i64 e.v,.int .u32 (e.tag:Int)] 28 (0,0))):=by show _=_;simpa using HIT.out
          clear d0 d1 d2 d3 d4 s3 HIT HI3 hfl
          generalize W3.drewN nq=W4 at *
          have hbase:=finAll_len r.size r.slide was lt ln E (E.take n) hc1 hc4
          rw [List.length_take] at hbase
          obtain ⟨base,HBa⟩:∃ b,Hid (finAll r.size r.slide was lt ln E (E.take n)=b):=⟨_,rfl⟩
          rw [HBa.out] at HI4 hbase HGs
          have hN:=winN_le r.size r.slide e.t hc1 hc4
          go_wp2_with fail
          go_loopw [8,11] (fun v c wx=>∃ (j:Nat),j<=winN r.size r.slide e.t/\c=.int .i64 (startAt r.slide e.t j)/\LnInv W2 wx (evFin r.size r.slide was lt ln E e j base) v/\wx.heap[C]?=some (.cells #[.int .i64 1,.string e.key,.int .i64 e.t,.int .i64 e.v,.int .u32 (e.tag:Int)] 28 (0,0))) (fun _ c _=>(intOf c+4611686018427387904).toNat)
          case atStart=>exact ⟨0,Nat.zero_le _,rfl,HI4.out,HIT4.out⟩
          case round=>
           obtain ⟨j,hj,rfl,hIj,hITj⟩:=hrel
           have hrv:=HR2.out.below hIj.below
           have z5:wr.cell? ⟨g,0,none⟩=some (.int .i64 r.size):=hrv.rf.headAt 0 rfl
           have s5:wr.cell? ⟨g,1,none⟩=some (.int .i64 r.slide):=hrv.rf.headAt 1 rfl
           have t5:wr.cell? ⟨g,46,none⟩=some (.int .i64 lt):=hrv.rf.tailAt 2 rfl
           obtain ⟨d0,d1,d2,d3,d4⟩:=itemAt hITj
           have hsb:=startAt_bound r.size r.slide e.t hc1 hc2 hc3 ht1 ht2 j hj
           have hw1:IntKind.i64.wrap (startAt r.slide e.t j+r.size)=startAt r.slide e.t j+r.size:=by rw [IntKind.wrap_i64];omega
           have hsucc:=startAt_succ r.slide e.t j
           have hw2:IntKind.i64.wrap (startAt r.slide e.t j - r.slide)=startAt r.slide e.t (j+1):=by rw [IntKind.wrap_i64,<- hsucc];omega
           have hiff:=winN_iff r.size r.slide e.t hc1 j
           have HIj:=hid hIj
           have HITj:=hid hITj
           have hevs:=evFin_succ r.size r.slide was lt ln E e j base
           have hevl:=evFin_len r.size r.slide was lt ln E e j base
           clear hrv hIj hITj
           by_cases hjN:j < winN r.size r.slide e.t
           . have hgt:=hiff.2 hjN
             have hgt2:e.t < startAt r.slide e.t j+r.size:=hgt
             clear hiff hgt
             obtain ⟨sj,hsj⟩:∃ z,startAt r.slide e.t j=z:=⟨_,rfl⟩
             obtain ⟨sn,hsn⟩:∃ z,startAt r.slide e.t (j+1)=z:=⟨_,rfl⟩
             have HSn:=hid hsn
             rw [hsj] at hsb hw1 hw2 hsucc hgt2 hevs ⊢
             rw [hsn] at hw2 hsucc
             clear hsj hsn
             go_upto_region 20 with fail
             go_quiet (fail)
             have HI6:Hid (LnInv W2 (wr.drewN nq) (evFin r.size r.slide was lt ln E e j base) u8):=by
              obtain ⟨xs,hw,hm⟩:=HIj.out.wins
              exact ⟨below_drewN HIj.out.below _,xs,hw.below (below_drewN (Below.refl _ wr) _),hm⟩
             have HIT6:Hid ((wr.drewN nq).heap[C]?=some (.cells #[.int .i64 1,.string e.key,.int .i64 e.t,.int .i64 e.v,.int .u32 (e.tag:Int)] 28 (0,0))):=by show _=_;simpa using HITj.out
             clear HIj HITj d0 d1 d2 d3 d4 z5 s5 t5
             generalize wr.drewN nq=W6 at *
             have hrv:=HR2.out.below HI6.out.below
             have z5:W6.cell? ⟨g,0,none⟩=some (.int .i64 r.size):=hrv.rf.headAt 0 rfl
             have s5:W6.cell? ⟨g,1,none⟩=some (.int .i64 r.slide):=hrv.rf.headAt 1 rfl
             have t5:W6.cell? ⟨g,46,none⟩=some (.int .i64 lt):=hrv.rf.tailAt 2 rfl
             have HRv:=hid hrv
             obtain ⟨d0,d1,d2,d3,d4⟩:=itemAt HIT6.out
             clear hrv
             go_upto_region 23 with fail
             go_cut [139] from 125 to 139 (fun s139 wx=>s139=.bool (finB r.size was lt ln sj)/\W6=wx)
             case first=>
              have HF:Hid (finB r.size was lt ln sj=(decide (sj+r.size<=lt) && (!ln || decide (was < sj+r.size)))):=rfl
              by_cases hle:sj+r.size<=lt
              . cases ln with
                | false=>
                  have HF2:Hid (finB r.size was lt false sj=true):=by show _=_;rw [HF.out,decide_eq_true hle];rfl
                  go_wp2_with fail
                  go_meet
                  exact ⟨by rw [HF2.out],rfl⟩
                | true=>
                  by_cases hwa:was < sj+r.size
                  . have HF2:Hid (finB r.size was lt true sj=true):=by show _=_;rw [HF.out,decide_eq_true hle,decide_eq_true hwa];rfl
                    go_wp2_with fail
                    go_meet
                    exact ⟨by rw [HF2.out],rfl⟩
                  . have HF2:Hid (finB r.size was lt true sj=false):=by show _=_;rw [HF.out,decide_eq_true hle,decide_eq_false hwa];rfl
                    go_wp2_with fail
                    go_meet
                    exact ⟨by rw [HF2.out],rfl⟩
              . have HF2:Hid (finB r.size was lt ln sj=false):=by show _=_;rw [HF.out,decide_eq_false hle];rfl
                go_wp2_with fail
                go_meet
                exact ⟨by rw [HF2.out],rfl⟩
             case rest=>
              obtain ⟨rfl,rfl⟩:=hcut
              have HEs:=hid hevs
              clear hevs
              cases hfb:finB r.size was lt ln sj with
              | false=>
                have HE2:Hid (evFin r.size r.slide was lt ln E e (j+1) base=evFin r.size r.slide was lt ln E e j base):=by show _=_;rw [HEs.out,hfb];rfl
                clear hfb
                go_wp2_with fail
                go_roundw
                case rel=>exact ⟨j+1,by omega,by rw [HSn.out],by rw [HE2.out];exact HI6.out,HIT6.out⟩
                case measure=>simp [intOf];omega
              | true=>
                have HE2:Hid (evFin r.size r.slide was lt ln E e (j+1) base=placeF e.key sj (winF e.key sj r.size E) (evFin r.size r.slide was lt ln E e j base)):=by show _=_;rw [HEs.out,hfb];rfl
                clear hfb
                obtain ⟨xs,hw,hm⟩:=HI6.out.wins
                have hxl:xs.length<=1000000000:=by
                 have:xs.length=(xs.map WinX.w).length:=by simp
                 rw [this,hm];omega
                have hpl:=place_any g (r.setLine lt) E e.key sj u8 xs W2.heap.size W6 HRv.out hw HI6.out.below.size (by omega) hxl (by omega) (show 1<=r.size/\r.size<=1099511627776 by omega)
                rw [hm] at hpl
                clear hw hm hxl
                go_wp2_with fail
                refine hpl.mono ?_
                rintro en W7 ⟨v7,xs7,rfl,hw7,hm7,hB7⟩
                have HI7:Hid (LnInv W2 W7 (evFin r.size r.slide was lt ln E e (j+1) base) v7):=⟨HI6.out.below.trans (hB7.mono HI6.out.below.size),xs7,hw7,by rw [HE2.out];exact hm7⟩
                have HIT7:Hid (W7.heap[C]?=some (.cells #[.int .i64 1,.string e.key,.int .i64 e.t,.int .i64 e.v,.int .u32 (e.tag:Int)] 28 (0,0))):=(hB7.block C (Array.getElem?_eq_some_iff.1 HIT6.out).1).trans HIT6.out
                have s7:W7.cell? ⟨g,1,none⟩=some (.int .i64 r.slide):=(HR2.out.below HI7.out.below).rf.headAt 1 rfl
                clear hw7 hm7 hB7 hpl
                go_wp2_with fail
                go_roundw
                case rel=>exact ⟨j+1,by omega,by rw [HSn.out],HI7.out,HIT7.out⟩
                case measure=>simp [intOf];omega
           . have hjE:j=winN r.size r.slide e.t:=by omega
             have hng:¬ e.t < startAt r.slide e.t j+r.size:=fun hh=>hjN (hiff.1 hh)
             have HI8:Hid (∀ m,LnInv W2 (wr.drewN m) (finAll r.size r.slide was lt ln E (E.take (n+1))) u8):=fun m=>by
              rw [HGs.out,<- hjE]
              obtain ⟨xs,hw,hm⟩:=HIj.out.wins
              exact ⟨below_drewN HIj.out.below _,xs,hw.below (below_drewN (Below.refl _ wr) _),hm⟩
             clear hiff hevs hevl hsucc hw2
             obtain ⟨sj,hsj⟩:∃ z,startAt r.slide e.t j=z:=⟨_,rfl⟩
             rw [hsj] at hsb hw1 hng ⊢
             clear hsj
             go_upto_region 20 with fail
             go_quiet (fail)
             go_wp2
             go_roundw
             case rel=>exact ⟨n+1,by omega,by go_num,HI8.out _⟩
             case measure=>simp [intOf];omega
        . have hnE:n=E.length:=by omega
          subst hnE
          rw [List.take_length] at hI
          obtain ⟨xs,hw,hm⟩:=hI.wins
          obtain ⟨va,vc,hv8,hsrc⟩:=hw.srcAll
          have hgd:r.done.ownBlock ≠ some g:=fun e=>(HD.out.row.cb e).ne (Cb.of H.out.rf.blk) (by decide) rfl
          have d2:Row W2 70 7 r.done (ds.flatMap wxCells):=HD.out.row.kept HK2.out (fun k hk e=>hgd (by rw [<- e];exact hk))
          have dr:Row wr 70 7 r.done (ds.flatMap wxCells):=d2.below hB2 (fun k hk=>(d2.blk_lt hk).1)
          have c47:wr.cell? ⟨g,47,none⟩=some r.done:=hrv.rf.tailAt 3 rfl
          have f47:wr.frozen? ⟨g,47,none⟩=false:=hrv.rf.frozen 47
          have hdl7:=winFlat_len ds
          have hxl:xs.length<=900000000:=by
           have h1:xs.length=(xs.map WinX.w).length:=by simp
           have h2:=finAll_len r.size r.slide was lt ln E E hc1 hc4
           rw [h1,hm];omega
          have HM:=hid hm
          have HW:=hid hw
          have HB2:=hid hB2
          subst hv8
          clear hI hm hw hrv HI hgd d2 hB2
          go_wp2_with (at_builtin;go_must (refine wpList_append_any _ rfl _ _ _ _ rfl 70 i (.agg #[.string ⟨#[]⟩,.int .i64 0,.int .i64 0,.int .i64 0,.int .i64 0,.int .i64 0,.slice none 0 0]) 7 80 Tryz.underlying54 hi hz0 hz1 hz2 rfl (by decide) r.done (ds.flatMap wxCells) rfl dr (.slice va xs.length vc) xs.length (xs.flatMap wxCells) rfl hsrc ?h63 ?hby ?next))
          case h63=>rw [hdl7];simp only [maxLen];omega
          case hby=>rw [hdl7];omega
          intro dv W8 ha hn0
          have hfin:=lines_fin H.out HD.out HK2.out HR2.out HB2.out HW.out ha (fun h=>hn0 (by first | exact h | exact List.eq_nil_of_length_eq_zero h))
          have HFin:=hid hfin
          have hgl8:g < wr.heap.size:=by have:=HB2.out.size;omega
          have hg8:W8.heap[g]?=wr.heap[g]?:=ha.grown.block g hgl8 (fun e=>(HD.out.row.cb e.symm).ne (Cb.of H.out.rf.blk) (by decide) rfl)
          have q47:W8.cell? ⟨g,47,none⟩=some r.done:=by rw [<- c47];simp [World.cell?,hg8]
          have p47:W8.frozen? ⟨g,47,none⟩=false:=by rw [<- f47];simp [World.frozen?,hg8]
          obtain ⟨da,dn,dc,hdv⟩:∃ a n c,dv=.slice a n c:=by
           rcases ha.row with ⟨h1,_⟩ | ⟨_,_,_,_,_,h1,_⟩
           . exact ⟨_,_,_,h1⟩
           . exact ⟨_,_,_,h1⟩
          subst hdv
          clear ha hn0 hfin hg8 c47 f47 dr hsrc
          go_wp2_with fail
          go_end0
          exact ⟨rfl,.inr ⟨lt,_,xs,HGo.out,HFin.out,by rw [HM.out,HWas.out,HLn.out]⟩⟩
    . have HGo:Hid (linesF r E=none):=by show _=_;rw [HLF.out,if_neg hgo]
      have hfin:=hid (H.out.below HB.out)
      clear HLF
      cases ls with
      | false=>
        go_wp2_with fail
        refine bodyPost_ret (results_none rfl _ _ _) rfl ?_
        exact ⟨rfl,.inl ⟨HGo.out,hfin.out,HB.out⟩⟩
      | true=>
        have h2:r.lined=true/\lt<=r.line:=by
         cases hl:r.lined with
         | false=>rw [hl] at hgo;simp at hgo
         | true=>rw [hl] at hgo;simp at hgo;exact ⟨rfl,hgo⟩
        obtain ⟨h2,h3⟩:=h2
        rw [h2] at c45
        clear hgo
        go_wp2_with fail
        refine bodyPost_ret (results_none rfl _ _ _) rfl ?_
        exact ⟨rfl,.inl ⟨HGo.out,hfin.out,HB.out⟩⟩
end Go.Proofs.YtcfngdnmpogaoaaGreat
namespace Go.Proofs.YtcfngdnmpogaoaaGreat
open Go.RowKit
variable {late:Int}
structure SrcRel (late:Int) (s:SrcS) (t:RSrc):Prop where
 op:t.opened=s.opened
 br:t.broken=s.broken
 off:s.opened=false\/s.broken=true->s.is=false
 re:s.opened=true->s.broken=false->t.reached=s.is/\(s.is=true->t.reach=s.time - late)
def SrcRels (late:Int) (ss:List SrcS) (ts:List RSrc):Prop:=ss.length=ts.length/\∀ (i:Nat) s t,ss[i]?=some s->ts[i]?=some t->SrcRel late s t
def MomRel (late:Int) (m m':Int × Bool):Prop:=m'.2=m.2/\(m.2=true->m'.1=m.1 - late)
theorem step_rel {m m':Int × Bool} {s:SrcS} {t:RSrc} (h:MomRel late m m') (hs:SrcRel late s t):MomRel late (leastStepS m s) (leastRStep m' t):=by
 obtain ⟨h1,h2⟩:=h
 unfold leastStepS leastRStep rTest
 by_cases ho:s.opened=true/\s.broken=false
 . obtain ⟨o,b⟩:=ho
   obtain ⟨r1,r2⟩:=hs.re o b
   rw [hs.op,hs.br,o,b,r1,h1]
   cases hi:s.is with
   | false=>simp only [Bool.false_and,Bool.and_false,Bool.not_false,Bool.false_eq_true,if_false];exact ⟨h1,h2⟩
   | true=>
     have r3:=r2 hi
     cases hm:m.2 with
     | false=>
       simp only [Bool.not_false,Bool.true_or,Bool.and_self,if_true]
       exact ⟨rfl,fun _=>r3⟩
     | true=>
       have h3:=h2 hm
       have hd:decide (t.reach < m'.1)=decide (s.time < m.1):=by
        rw [r3,h3]
        exact decide_eq_decide.2 (by omega)
       rw [hd]
       cases hdd:decide (s.time < m.1) with
       | true=>
         simp only [Bool.not_true,Bool.false_or,Bool.not_false,Bool.and_self,if_true]
         exact ⟨rfl,fun _=>r3⟩
       | false=>
         simp only [Bool.not_true,Bool.or_self,Bool.and_false,Bool.false_eq_true,if_false]
         exact ⟨h1,h2⟩
 . have hoff:s.is=false:=hs.off (by
    cases ho':s.opened with
    | false=>exact .inl rfl
    | true=>
      right
      cases hb:s.broken with
      | true=>rfl
      | false=>exact absurd ⟨ho',hb⟩ ho)
   have ht:(t.opened && (!t.broken && (t.reached && (!m'.2 || decide (t.reach < m'.1)))))=false:=by
    rw [hs.op,hs.br]
    cases ho':s.opened with
    | false=>rfl
    | true=>
      cases hb:s.broken with
      | true=>rfl
      | false=>exact absurd ⟨ho',hb⟩ ho
   rw [ht,hoff]
   simp only [Bool.false_and,Bool.false_eq_true,if_false]
   exact ⟨h1,h2⟩
theorem least_rel {ss:List SrcS} {ts:List RSrc} (h:SrcRels late ss ts):MomRel late (leastS ss) (leastR ts):=by
 have key:∀ (ss:List SrcS) (ts:List RSrc) (m m':Int × Bool),SrcRels late ss ts->MomRel late m m'->MomRel late (ss.foldl leastStepS m) (ts.foldl leastRStep m'):=by
  intro ss
  induction ss with
  | nil=>
    intro ts m m' h hm
    have:ts=[]:=List.eq_nil_of_length_eq_zero (by have:=h.1;simp at this;omega)
    subst this;exact hm
  | cons s ss ih=>
    intro ts m m' h hm
    cases ts with
    | nil=>have:=h.1;simp at this
    | cons t ts=>
      refine ih ts _ _ ⟨by have:=h.1;simpa using this,fun i a b ha hb=>h.2 (i+1) a b (by simpa using ha) (by simpa using hb)⟩ (step_rel hm (h.2 0 s t rfl rfl))
 exact key ss ts _ _ h ⟨rfl,fun e=>by cases e⟩
theorem line_rel {ss:List SrcS} {r:RCells} {lt:Int} {li:Bool} (E:List Ev) (h:SrcRels late ss r.src) (h1:r.line=lt) (h2:r.lined=li) :
 (linesF r E=none->lineF late ss lt li=(lt,li))/\∀ t,linesF r E=some t->lineF late ss lt li=(t,true):=by
 obtain ⟨m1,m2⟩:=least_rel h
 unfold linesF lineF
 rw [h1,h2,m1]
 cases hm:(leastS ss).2 with
 | false=>simp
 | true=>
   have m3:=m2 hm
   rw [m3]
   cases li with
   | false=>simp
   | true=>
     by_cases hle:(leastS ss).1 - late<=lt
     . have:¬ lt < (leastS ss).1 - late:=by omega
       simp [hle,this]
     . have:lt < (leastS ss).1 - late:=by omega
       simp [hle,this]
end Go.Proofs.YtcfngdnmpogaoaaGreat
namespace Go.Proofs.YtcfngdnmpogaoaaGreat
open Go.RowKit
set_option maxHeartbeats 1600000
theorem rclose_out (g:Nat) (n:Int) (w:World) (hn:¬ (0<=n/\n < 8)) :
 Calls Tryz.prog 60 #[.pointer (some ⟨g,0,none⟩),.int .i64 n] w fun e w'=>e=.returned (.int .i64 3)/\w'=w:=by
 by_cases h0:n < 0
 . have h8:¬ 8<=n:=by omega
   clear hn
   go_enter Tryz.func60,Tryz.ntmps60
   go_wp2_with fail
   go_ret
   exact ⟨rfl,rfl⟩
 . have h8:8<=n:=by omega
   clear hn
   go_enter Tryz.func60,Tryz.ntmps60
   go_wp2_with fail
   go_ret
   exact ⟨rfl,rfl⟩
theorem rclose_no (g n:Nat) (r:RCells) (s:RSrc) (w:World) (h:RF w g r) (hs:r.src[n]?=some s) (ho:s.opened=false) :
 Calls Tryz.prog 60 #[.pointer (some ⟨g,0,none⟩),.int .i64 n] w fun e w'=>e=.returned (.int .i64 4)/\w'=w:=by
 have hn:n < 8:=by have:=(List.getElem?_eq_some_iff.1 hs).1;have:=h.len;omega
 have c0:w.cell? ⟨g,4+n*5,none⟩=some (.bool false):=h.cell (by rw [<- ho];exact r.srcAt n 0 s hs (by omega))
 clear h
 go_enter Tryz.func60,Tryz.ntmps60
 go_wp2_with fail
 go_ret
 exact ⟨rfl,rfl⟩
theorem rclose_of (g n:Nat) (r:RCells) (s:RSrc) (w:World) (h:RF w g r) (hs:r.src[n]?=some s) (ho:s.opened=true) (Q:World->Prop)
 (hl:∀ W,RF W g (r.setSrc n RSrc.zero)->Kept (fun k=>k=g) w W->Calls Tryz.prog 80 #[.pointer (some ⟨g,0,none⟩)] W fun e w'=>e=.returned (.tuple #[])/\Q w') :
 Calls Tryz.prog 60 #[.pointer (some ⟨g,0,none⟩),.int .i64 n] w fun e w'=>e=.returned (.int .i64 0)/\Q w':=by
 have hn:n < 8:=by have:=(List.getElem?_eq_some_iff.1 hs).1;have:=h.len;omega
 have c0:w.cell? ⟨g,4+n*5,none⟩=some (.bool true):=h.cell (by rw [<- ho];exact r.srcAt n 0 s hs (by omega))
 have c1:w.cell? ⟨g,4+n*5+1,none⟩=some (.bool s.broken):=h.cell (r.srcAt n 1 s hs (by omega))
 have c2:w.cell? ⟨g,4+n*5+2,none⟩=some (.bool s.reached):=h.cell (r.srcAt n 2 s hs (by omega))
 have c3:w.cell? ⟨g,4+n*5+3,none⟩=some (.int .i64 s.reach):=h.cell (r.srcAt n 3 s hs (by omega))
 have c4:w.cell? ⟨g,4+n*5+4,none⟩=some (.string s.rest):=h.cell (r.srcAt n 4 s hs (by omega))
 have fz:∀ j,w.frozen? ⟨g,j,none⟩=false:=h.frozen
 have HH:=hid (h.putAll n s false false false 0 ⟨#[]⟩ hs)
 have HK:Hid (Kept (fun k=>k=g) w (((((w.setCell ⟨g,4+n*5,none⟩ (.bool false)).setCell ⟨g,4+n*5+1,none⟩ (.bool false)).setCell ⟨g,4+n*5+2,none⟩ (.bool false)).setCell ⟨g,4+n*5+3,none⟩ (.int .i64 0)).setCell ⟨g,4+n*5+4,none⟩ (.string ⟨#[]⟩))):=by
  show Kept _ _ _
  refine Kept.setCell ?_ ⟨g,_,none⟩ _ (fun _=>rfl)
  refine Kept.setCell ?_ ⟨g,_,none⟩ _ (fun _=>rfl)
  refine Kept.setCell ?_ ⟨g,_,none⟩ _ (fun _=>rfl)
  refine Kept.setCell ?_ ⟨g,_,none⟩ _ (fun _=>rfl)
  refine Kept.setCell ?_ ⟨g,_,none⟩ _ (fun _=>rfl)
  exact Kept.refl _ w
 have HL:=hid hl
 clear h hl
 go_enter Tryz.func60,Tryz.ntmps60
 go_wp2_with fail
 generalize ((((w.setCell ⟨g,4+n*5,none⟩ (.bool false)).setCell ⟨g,4+n*5+1,none⟩ (.bool false)).setCell ⟨g,4+n*5+2,none⟩ (.bool false)).setCell ⟨g,4+n*5+3,none⟩ (.int .i64 0)).setCell ⟨g,4+n*5+4,none⟩ (.string ⟨#[]⟩)=W1 at *
 refine (HL.out W1 HH.out HK.out).mono ?_
 rintro e W2 ⟨rfl,hq⟩
 have HQ:=hid hq
 clear hq c0 c1 c2 c3 c4 fz
 go_wp2_with fail
 go_ret
 exact ⟨rfl,HQ.out⟩
end Go.Proofs.YtcfngdnmpogaoaaGreat
