import Derived.Test.YtcfngdnmpogaoaaGreatTkU22
import Derived.Test.YtcfngdnmpogaoaaGreatTkU19
namespace Go.Proofs.YtcfngdnmpogaoaaGreat
open Go.RowKit Go.MuLone
set_option maxHeartbeats 12800000
set_option maxRecDepth 20000
theorem win_src (w:World) (x:WinX) (h:x.tv.oneCell'=true):Src Tryz.prog 7 54 (.slice (some ⟨w.heap.size,0,none⟩) 1 1) 1 (wxCells x) (w.alloc (.cells (wxCells x).toArray 70)):=
 Src.ofSlice _ Tryz.underlying54 ⟨w.heap.size,0,none⟩ 1 1 _ rfl (fun j u hu=>by
  rw [Addr.add_lit,cell_of_row _ _ _ _ _ _ (heap_alloc_new w _)]
  rw [Nat.zero_add];simpa using hu) (fun u hu=>win_one [x] (fun y hy=>by rw [List.mem_singleton.1 hy];exact h) u (by simpa using hu))
theorem slide_of (HRis:RisingOk) (g:Nat) (sc:SCells) (d0:RunD) (r0:RunS) (ov0:Value) (xs0:List WinX) (w:World) (N:Nat) (hsf:SF w g sc) (hrun:RunAt w d0 r0) (hwins:WinsAt w ov0 xs0 0) (hnum:NumOk r0) (hsm:r0.ps.length<=400000000) (hz1:1<=sc.slide) (hz2:1<=sc.size) (hz3:sc.size<=1099511627776) (hz4:sc.slide<=1099511627776) (hlt:sc.lt<=2305843009213693952) (hN:(slideF sc.size sc.slide sc.lt (leftS sc.lt r0+1) r0 []).2.length<=N) (hN2:xs0.length+N<=1000000000) :
 Calls Tryz.prog 73 #[.pointer (some ⟨g,0,none⟩),ov0,.pointer (some ⟨d0.R,0,none⟩)] w fun e w'=>∃ ov xs d,e=.returned ov/\SF w' g sc/\RunAt w' d (slideF sc.size sc.slide sc.lt (leftS sc.lt r0+1) r0 []).1/\d.R=d0.R/\(∀ k,d.foot k->d0.foot k\/w.heap.size<=k)/\WinsAt w' ov (xs0++xs) 0/\xs.length=(slideF sc.size sc.slide sc.lt (leftS sc.lt r0+1) r0 []).2.length/\(∀ (i:Nat) x s,xs[i]?=some x->(slideF sc.size sc.slide sc.lt (leftS sc.lt r0+1) r0 []).2[i]?=some s->Told s.2 r0.key s.1 x.w)/\(∀ k,ov.ownBlock=some k->ov0.ownBlock=some k\/w.heap.size<=k)/\(∀ x ∈ xs,∀ k,x.tv.ownBlock=some k->w.heap.size<=k)/\Kept (fun k=>d0.foot k\/ov0.ownBlock=some k) w w'/\xs.Pairwise tvAp:=by
 obtain ⟨i,hi,hz0',hz1',hz2'⟩:=info_parts infoWinA
 obtain ⟨RES,HRES⟩:∃ RES,Hid (slideF sc.size sc.slide sc.lt (leftS sc.lt r0+1) r0 []=RES):=⟨_,rfl⟩
 obtain ⟨F0,HF0⟩:∃ F0,Hid (d0.foot=F0):=⟨_,rfl⟩
 rw [HRES.out,HF0.out]
 obtain ⟨R,HR⟩:∃ R,Hid (d0.R=R):=⟨_,rfl⟩
 rw [HR.out]
 have HS:Hid (SlLoop w w g sc F0 R ov0 xs0 r0.key RES N ov0 [] d0 r0 [] (leftS sc.lt r0+1)):=
  ⟨hsf,hrun,HR.out,fun k hk=>.inl (by rw [<- HF0.out];exact hk),by simpa using hwins,rfl,fun i x s hx=>by simp at hx,fun k hk=>.inl hk,fun x hx=>by simp at hx,Kept.refl _ w,rfl,HRES.out,Nat.lt_succ_self _,(by rw [<- HRES.out];exact hN),hsm,hnum,List.Pairwise.nil⟩
 have HRisH:Hid RisingOk:=HRis
 clear HRis hsf hrun hwins hnum hsm hN
 go_enter Tryz.func73,Tryz.ntmps73
 go_wp2_with fail
 go_loopw [1] (fun ov wr=>∃ xs d r ws n,SlLoop w wr g sc F0 R ov0 xs0 r0.key RES N ov xs d r ws n) (fun ov _=>xs0.length+N+1 - lenV ov)
 case atStart=>exact ⟨_,_,_,_,_,HS.out⟩
 case round=>
  obtain ⟨xs,d,r,ws,n,hL⟩:=hrel
  obtain ⟨oa,oc,hov,-⟩:=hL.wins.srcAll
  rw [List.length_append] at hov
  subst hov
  have HL:Hid (SlLoop w wr g sc F0 R ov0 xs0 r0.key RES N (.slice oa (xs0.length+xs.length) oc) xs d r ws n):=hL
  obtain ⟨a0,a1o,a2,a3,a4,af⟩:=runAt hL.run.run
  have hdR:=hL.dR
  rw [hdR] at a0 a1o a2 a3 a4 af
  obtain ⟨pa,pc,hpv0,-⟩:=hL.run.panes.len (by decide)
  rw [List.length_map,Nat.div_one,hL.run.len] at hpv0
  have a1:wr.cell? ⟨R,1,none⟩=some (.slice pa r.ps.length pc):=by rw [<- hpv0];exact a1o
  clear a1o hpv0
  obtain ⟨n,rfl⟩:∃ m,n=m+1:=⟨n - 1,by have:=hL.fuel;omega⟩
  have hres:=hL.res
  rw [slideF] at hres
  have HLen:Hid (lenV (.slice oa (xs0.length+xs.length) oc)=xs0.length+xs.length):=rfl
  by_cases hps:r.ps=[]
  . rw [if_pos (.inl hps)] at hres
    have HRe:Hid ((r,ws)=RES):=hres
    have hl0:r.ps.length=0:=by rw [hps];rfl
    rw [hl0] at a1
    clear hL hres
    go_wp2_with fail
    go_ret
    rw [<- HRe.out]
    exact ⟨_,xs,d,rfl,HL.out.sf,HL.out.run,HL.out.dR,HL.out.foot,HL.out.wins,HL.out.len,HL.out.told,HL.out.own,HL.out.tg,HL.out.kept,HL.out.ap⟩
  . have hlp:0 < r.ps.length:=List.length_pos_iff.2 hps
    have hlp2:(0:Int) < (r.ps.length:Int):=by omega
    have hnS:=nextStart_any d r wr hL.run hps
    rw [hdR] at hnS
    obtain ⟨b1,b2⟩:=hL.num.start
    have hfin:=isFinished_any g sc (nextS r) wr hL.sf (by rw [IntKind.wrap_i64];omega)
    obtain ⟨S,HSt⟩:∃ S,Hid (nextS r=S):=⟨_,rfl⟩
    rw [HSt.out] at hnS hfin b1 b2 hres
    clear hL
    go_wp2_with fail
    refine hnS.mono ?_
    rintro e V ⟨rfl,hV⟩
    have hV':=hV.symm
    subst hV'
    clear hnS
    go_wp2_with fail
    refine hfin.mono ?_
    rintro e V2 ⟨rfl,m,rfl⟩
    clear hfin
    by_cases hf:S+sc.size<=sc.lt
    . rw [if_neg (by rintro (hh | hh);exact hps hh;omega)] at hres
      have HRe:Hid (slideF sc.size sc.slide sc.lt n (stepR sc.slide r) (ws++[(S,(entR r).ps.take (entR r).inside)])=RES):=hres
      have hE:Hid (∀ W,RunAt W d r->Calls Tryz.prog 102 #[.pointer (some ⟨R,0,none⟩),.int .i64 S] W fun e w'=>e=.returned (.tuple #[])/\∃ cv',RunAt w' { d with cv:=cv' } (entR r)/\(∀ k,cv'.ownBlock=some k->d.cv.ownBlock=some k\/W.heap.size<=k)/\Kept (fun k=>k=R\/partsFoot d.b d.cv d.gv k) W w'):=fun W hW=>by
       rw [<- HL.out.dR,<- HSt.out]
       exact enterAt_any d r (nextS r) W hW HL.out.small
      have hr1:RunAt (wr.drewN m) d r:=HL.out.run.congr (fun _ _=>by simp)
      have HSF1:Hid (SF (wr.drewN m) g sc):=HL.out.sf.congr (by simp)
      have HW1:Hid (WinsAt (wr.drewN m) (.slice oa (xs0.length+xs.length) oc) (xs0++xs) 0):=HL.out.wins.below (below_drewN (Below.refl _ wr) m)
      have KW1:Hid (Kept (fun k=>F0 k\/ov0.ownBlock=some k) w (wr.drewN m)):=HL.out.kept.drewN m
      have hEn:=hE.out (wr.drewN m) hr1
      have HR1:Hid (RunAt (wr.drewN m) d r):=hr1
      clear a0 a1 a2 a3 a4 af hr1 hres hE
      generalize wr.drewN m=W1 at *
      go_wp2_with fail
      refine hEn.mono ?_
      rintro e W2 ⟨rfl,cv',hr2,ho2,hk2⟩
      have HR2:Hid (RunAt W2 { d with cv:=cv' } (entR r)):=hr2
      have HKf:Hid (∀ k,(k=R\/partsFoot d.b d.cv d.gv k)->d.foot k):=fun k hk=>by
       rcases hk with hk | hk
       . exact .inl (by rw [HL.out.dR];exact hk)
       . exact .inr (.inr (.inr hk))
      have hnoW:∀ k,(Value.slice oa (xs0.length+xs.length) oc).ownBlock=some k->¬ (k=R\/partsFoot d.b d.cv d.gv k):=fun k hk hh=>HR1.out.apart HW1.out.row (.inl rfl) k hk (HKf.out k hh)
      have hnoT:∀ x ∈ xs0++xs,∀ k,x.tv.ownBlock=some k->¬ (k=R\/partsFoot d.b d.cv d.gv k):=fun x hx k hk hh=>HR1.out.apart (HW1.out.tags x hx).1 (.inr rfl) k hk (HKf.out k hh)
      have HW2:Hid (WinsAt W2 (.slice oa (xs0.length+xs.length) oc) (xs0++xs) 0):=HW1.out.kept hk2 hnoW hnoT
      have HSF2:Hid (SF W2 g sc):=HSF1.out.congr (hk2.block g HSF1.out.lt (fun hh=>(HR1.out.kinds (HKf.out g hh)).ne (Cb.of HSF1.out.blk) (by decide) rfl))
      have hsW1:=KW1.out.size
      have HF2:Hid (∀ k,({ d with cv:=cv' }:RunD).foot k->F0 k\/w.heap.size<=k):=fun k hk=>by
       rcases hk with hk | hk | hk | hk
       . exact HL.out.foot k (.inl hk)
       . exact HL.out.foot k (.inr (.inl hk))
       . exact HL.out.foot k (.inr (.inr (.inl hk)))
       . rcases hk with hk | hk | hk
         . exact HL.out.foot k (.inr (.inr (.inr (.inl hk))))
         . rcases ho2 k hk with h5 | h5
           . exact HL.out.foot k (.inr (.inr (.inr (.inr (.inl h5)))))
           . exact .inr (by omega)
         . exact HL.out.foot k (.inr (.inr (.inr (.inr (.inr hk)))))
      have KW2:Hid (Kept (fun k=>F0 k\/ov0.ownBlock=some k) w W2):=KW1.out.step hk2 (fun k hk hh=>by
       rcases HL.out.foot k (HKf.out k hh) with h5 | h5
       . exact .inl h5
       . omega)
      clear hr2 ho2 hk2 hnoW hnoT HR1 HW1 HSF1 KW1 hEn
      obtain ⟨q,HQ⟩:∃ q,Hid ((entR r).ps.take (entR r).inside=q):=⟨_,rfl⟩
      have hql:q.length<=400000000:=by rw [<- HQ.out,List.length_take];have:=HL.out.small;show min _ r.ps.length<=_;omega
      obtain ⟨cm,gg,k1,k2,k3⟩:=HR2.out.parts.stacks
      have k3:gg.reverse++cm=q.map Pane.span:=by rw [<- HQ.out];exact k3
      have hsl:=span_len k3
      have HPT:Hid (PartsT W2.drew d.b cv' d.gv (cntV (evsOf q)) (sumV (evsOf q)) cm gg (tagN q)):=by
       have hp:=HR2.out.parts
       have e1:(entR r).ps.take (entR r).inside=q:=HQ.out
       rw [e1] at hp
       exact (⟨hp.tot,hp.bnd,k1,k2,by omega,by omega,hp.tags,hp.all⟩:PartsT W2 d.b cv' d.gv (cntV (evsOf q)) (sumV (evsOf q)) cm gg (tagN q)).congr (fun _ _=>rfl)
      have hT:=told_of HRisH.out r.key S d.b cv' d.gv (cntV (evsOf q)) (sumV (evsOf q)) cm gg (tagN q) W2.drew HPT.out
      obtain ⟨X,HX⟩:∃ X,Hid ((joinS (runS cm) (runS gg)).1=X):=⟨_,rfl⟩
      obtain ⟨Y,HY⟩:∃ Y,Hid ((joinS (runS cm) (runS gg)).2=Y):=⟨_,rfl⟩
      have HXY:Hid (X=(runS (q.map Pane.span)).1/\Y=(runS (q.map Pane.span)).2):=by
       rw [<- HX.out,<- HY.out,join_stacks,k3];exact ⟨rfl,rfl⟩
      obtain ⟨C,HC⟩:∃ C,Hid (cntV (evsOf q)=C):=⟨_,rfl⟩
      obtain ⟨U,HU⟩:∃ U,Hid (sumV (evsOf q)=U):=⟨_,rfl⟩
      rw [HX.out,HY.out,HC.out,HU.out] at hT
      have HT:Hid (Calls Tryz.prog 103 #[.string r.key,.int .i64 S,.slice (some ⟨d.b+3,0,none⟩) 3 3] W2.drew fun e w'=>∃ ta tn tc,∃ l:List Nat,e=.returned (.agg #[.string r.key,.int .i64 S,.int .i64 C,.int .i64 U,.int .i64 X,.int .i64 Y,.slice ta tn tc])/\Row w' 26 1 (.slice ta tn tc) (l.map tagV)/\l.Pairwise (· < ·)/\(∀ x:Nat,x ∈ l ↔ 0 < tagN q x)/\(∀ k,(Value.slice ta tn tc).ownBlock=some k->W2.drew.heap.size<=k)/\Below W2.drew.heap.size W2.drew w'):=hT
      clear hT k1 k2 k3 hsl
      obtain ⟨a0,a1,a2,a3,a4,af⟩:=runAt HR2.out.run
      have hdR2:({ d with cv:=cv' }:RunD).R=R:=HL.out.dR
      rw [hdR2] at a0 a1 a2 a3 a4 af
      have hRs:R < W2.heap.size:=by rw [<- hdR2];exact blkLt HR2.out.run
      have HRowU:Hid (∀ W,Below W2.drew.heap.size W2.drew W->Row W 70 7 (.slice oa (xs0.length+xs.length) oc) ((xs0++xs).flatMap wxCells)):=fun W hb=>HW2.out.row.below (B:=W2.heap.size) ((Below.refl _ W2).drew.trans hb) (fun k hk=>(HW2.out.row.blk_lt hk).1)
      have hflat:((xs0++xs).flatMap wxCells).length=7*(xs0.length+xs.length):=by rw [winFlat_len,List.length_append]
      have hfew:xs.length<=N:=by
       have h6:=HL.out.few
       have h7:=HL.out.len
       have h8:=HL.out.res
       have h9:ws.length<=RES.2.length:=by rw [<- h8];exact slideF_len ..
       omega
      have hkeyE:(entR r).key=r.key:=rfl
      rw [hkeyE] at a0
      go_upto_region 5 with fail
      have hRd:∀ W,Below W2.drew.heap.size W2.drew W->W.cell? ⟨R,0,none⟩=some (.string r.key)/\W.cell? ⟨R,4,none⟩=some (.slice (some ⟨d.b+3,0,none⟩) 3 3):=fun W hb=>⟨(hb.cell (p:=⟨R,0,none⟩) hRs).trans a0,(hb.cell (p:=⟨R,4,none⟩) hRs).trans a4⟩
      have HRo:Hid ((Value.slice oa (xs0.length+xs.length) oc).ownBlock ≠ some R):=fun e=>HR2.out.apart HW2.out.row (.inl rfl) R e (.inl hdR2.symm)
      have HRd:Hid (∀ W,Below W2.drew.heap.size W2.drew W->W.cell? ⟨R,0,none⟩=some (.string r.key)/\W.cell? ⟨R,4,none⟩=some (.slice (some ⟨d.b+3,0,none⟩) 3 3)):=hRd
      clear hRd
      go_region_held3 (fun W'=>W'.cell? ⟨R,0,none⟩=some (.string r.key)/\W'.cell? ⟨R,4,none⟩=some (.slice (some ⟨d.b+3,0,none⟩) 3 3)) (go_keep) (first
       | (go_at_call 103;refine HT.out.mono ?_;rintro e w4 ⟨ta,tn,tc,l,rfl,htr,hpw,hmm,htg,hb4⟩;obtain ⟨u4,v4⟩:=HRd.out w4 hb4;have HB4:Hid (Below W2.drew.heap.size W2.drew w4):=hb4;have HTr:Hid (Row w4 26 1 (.slice ta tn tc) (l.map tagV)):=htr;have HPw:Hid (l.Pairwise (· < ·)/\∀ x:Nat,x ∈ l ↔ 0 < tagN q x):=⟨hpw,hmm⟩;have HTg:Hid (∀ k,(Value.slice ta tn tc).ownBlock=some k->W2.drew.heap.size<=k):=htg;clear htr hpw hmm htg hb4)
       | (refine step_append rfl _ _ _ _ rfl 70 i (.agg #[.string ⟨#[]⟩,.int .i64 0,.int .i64 0,.int .i64 0,.int .i64 0,.int .i64 0,.slice none 0 0]) 7 80 Tryz.underlying54 hi hz0' hz1' hz2' rfl (by decide) (.slice oa (xs0.length+xs.length) oc) ((xs0++xs).flatMap wxCells) rfl (HRowU.out _ (HB4.out.alloc (HB4.out.size) (.cells (wxCells ⟨⟨r.key,S,C,U,X,Y,l⟩,.slice ta tn tc⟩).toArray 70))) (.slice (some ⟨w4.heap.size,0,none⟩) 1 1) 1 (wxCells ⟨⟨r.key,S,C,U,X,Y,l⟩,.slice ta tn tc⟩) rfl ?_ Nat.one_pos ?_ ?_ ?_;exact win_src w4 ⟨⟨r.key,S,C,U,X,Y,l⟩,.slice ta tn tc⟩ rfl;(simp only [maxLen];rw [hflat];omega);(rw [hflat];omega);intro ov2 w5 ha;have hsh:=ha.row.shape (by simp [wxCells]);obtain ⟨vg,vo,vn,vc,rfl,hvn,-⟩:=hsh;have HA:Hid (App (w4.alloc (.cells (wxCells ⟨⟨r.key,S,C,U,X,Y,l⟩,.slice ta tn tc⟩).toArray 70)) w5 70 7 (.slice oa (xs0.length+xs.length) oc) (.slice (some ⟨vg,vo,none⟩) vn vc) ((xs0++xs).flatMap wxCells) (wxCells ⟨⟨r.key,S,C,U,X,Y,l⟩,.slice ta tn tc⟩)):=ha;have kA:Kept (fun k=>(Value.slice oa (xs0.length+xs.length) oc).ownBlock=some k) w4 w5:=(((Kept.refl _ w4).alloc _).step (Kept.ofGrown ha.grown) (fun _ _ h=>h));have b5:w5.heap[R]?=w4.heap[R]?:=kA.block R (Nat.lt_of_lt_of_le hRs HB4.out.size) HRo.out;have u5:w5.cell? ⟨R,0,none⟩=some (.string r.key):=(by rw [<- u4];simp only [World.cell?,b5]);have v5:w5.cell? ⟨R,4,none⟩=some (.slice (some ⟨d.b+3,0,none⟩) 3 3):=(by rw [<- v4];simp only [World.cell?,b5]);clear ha b5))
      have HKB:Hid (Kept (fun k=>(Value.slice oa (xs0.length+xs.length) oc).ownBlock=some k) W2 w5):=((Kept.refl (fun k=>(Value.slice oa (xs0.length+xs.length) oc).ownBlock=some k) W2).drew).trans ((Kept.ofBelow HB4.out (fun k=>(Value.slice oa (xs0.length+xs.length) oc).ownBlock=some k)).step kA (fun _ _ h=>h))
      have hs4:W2.heap.size<=w4.heap.size:=HB4.out.size
      have hsW:w.heap.size<=W2.heap.size:=KW2.out.size
      have HR5:Hid (RunAt w5 { d with cv:=cv' } (entR r)):=HR2.out.kept HKB.out (fun k hf hk=>HR2.out.apart HW2.out.row (.inl rfl) k hk hf)
      have HSF5:Hid (SF w5 g sc):=HSF2.out.congr (HKB.out.block g HSF2.out.lt (fun hk=>(HW2.out.row.cb hk).ne (Cb.of HSF2.out.blk) (by decide) rfl))
      have HTold:Hid (Told q r0.key S (⟨⟨r.key,S,C,U,X,Y,l⟩,.slice ta tn tc⟩:WinX).w):=by
       refine ⟨HL.out.key,rfl,HC.out.symm,HU.out.symm,HXY.out.1,HXY.out.2,HPw.out.1,HPw.out.2⟩
      have hovo:∀ k,(Value.slice (some ⟨vg,vo,none⟩) vn vc).ownBlock=some k->(Value.slice oa (xs0.length+xs.length) oc).ownBlock=some k\/w4.heap.size<=k:=fun k hk=>by
       rcases HA.out.step with ⟨h1,_⟩ | ⟨h1,_⟩
       . exact .inl (by rw [<- h1];exact hk)
       . rw [h1] at hk
         simp only [Option.some.injEq] at hk
         simp at hk
         exact .inr (by omega)
      have HW5:Hid (WinsAt w5 (.slice (some ⟨vg,vo,none⟩) vn vc) (xs0++(xs++[⟨⟨r.key,S,C,U,X,Y,l⟩,.slice ta tn tc⟩])) 0):=by
       refine ⟨?_,fun x hx=>⟨?_,fun _ _=>Nat.zero_le _⟩,fun _ _=>Nat.zero_le _,fun e=>absurd e (by simp)⟩
       . have:=HA.out.row
         rw [<- List.append_assoc,List.flatMap_append]
         simpa using this
       . rw [<- List.append_assoc] at hx
         rcases List.mem_append.1 hx with hx | hx
         . have h1:=(HW2.out.tags x hx).1
           exact h1.kept HKB.out (fun k hk e=>h1.apart HW2.out.row (by decide) hk e)
         . rw [List.mem_singleton.1 hx]
           have h1:=HTr.out
           exact h1.kept kA (fun k hk e=>by have:=HTg.out k hk;have:=(HW2.out.row.blk_lt e).1;have e2:W2.drew.heap.size=W2.heap.size:=rfl;omega)
      have HO5:Hid (∀ k,(Value.slice (some ⟨vg,vo,none⟩) vn vc).ownBlock=some k->ov0.ownBlock=some k\/w.heap.size<=k):=fun k hk=>by
       rcases hovo k hk with h5 | h5
       . exact HL.out.own k h5
       . exact .inr (by omega)
      have HG5:Hid (∀ x ∈ xs++[(⟨⟨r.key,S,C,U,X,Y,l⟩,.slice ta tn tc⟩:WinX)],∀ k,x.tv.ownBlock=some k->w.heap.size<=k):=fun x hx k hk=>by
       rcases List.mem_append.1 hx with hx | hx
       . exact HL.out.tg x hx k hk
       . rw [List.mem_singleton.1 hx] at hk
         have:=HTg.out k hk
         have e2:W2.drew.heap.size=W2.heap.size:=rfl
         omega
      have HAp:Hid ((xs++[(⟨⟨r.key,S,C,U,X,Y,l⟩,.slice ta tn tc⟩:WinX)]).Pairwise tvAp):=by
       show List.Pairwise _ _
       refine List.pairwise_append.2 ⟨HL.out.ap,List.pairwise_singleton _ _,fun a ha b hb k h1 h2=>?_⟩
       rw [List.mem_singleton.1 hb] at h2
       have:=HTg.out k h2
       have:=((HW2.out.tags a (List.mem_append_right _ ha)).1.blk_lt h1).1
       have e2:W2.drew.heap.size=W2.heap.size:=rfl
       omega
      have KW5:Hid (Kept (fun k=>F0 k\/ov0.ownBlock=some k) w w5):=KW2.out.step HKB.out (fun k hk hh=>by
       rcases HL.out.own k hh with h5 | h5
       . exact .inr h5
       . omega)
      have hLenV:Hid (vn=xs0.length+xs.length+1):=by
       show _=_
       have:=HA.out.row
       obtain ⟨a,c,hv,-⟩:=this.len (by decide)
       injection hv with _ hv _
       rw [hv,List.length_append,hflat]
       simp [wxCells] <;> omega
      clear HKB HR2 HW2 HSF2 KW2 HB4 HTr HTg HPw HA kA hovo u4 v4 u5 v5 a0 a1 a2 a3 a4 af HRowU HRd HT HPT HRo
      obtain ⟨a0,a1,a2,a3,a4,af⟩:=runAt HR5.out.run
      rw [hdR2] at a0 a1 a2 a3 a4 af
      have c3:w5.cell? ⟨g,3,none⟩=some (.int .i64 sc.slide):=HSF5.out.headAt 3 rfl
      have hwS:IntKind.i64.wrap (S+sc.slide)=S+sc.slide:=by rw [IntKind.wrap_i64];omega
      have hwS2:wrap64 (S+sc.slide)=S+sc.slide:=by unfold wrap64;omega
      go_upto_region 7 with fail
      have HR6:Hid (RunAt (w5.setCell ⟨R,3,none⟩ (.int .i64 (S+sc.slide))) { d with cv:=cv' } { entR r with next:=S+sc.slide }):=by
       have h1:=HR5.out.setNext (S+sc.slide)
       have e:w5.setCell ⟨({ d with cv:=cv' }:RunD).R,3,none⟩ (.int .i64 (S+sc.slide))=w5.setCell ⟨R,3,none⟩ (.int .i64 (S+sc.slide)):=by rw [hdR2]
       rw [e] at h1;exact h1
      have hRk:Kept (fun k=>k=R) w5 (w5.setCell ⟨R,3,none⟩ (.int .i64 (S+sc.slide))):=(Kept.refl _ w5).setCell ⟨R,3,none⟩ _ (fun _=>rfl)
      have hfR:({ d with cv:=cv' }:RunD).foot R:=.inl hdR2.symm
      have HW6:Hid (WinsAt (w5.setCell ⟨R,3,none⟩ (.int .i64 (S+sc.slide))) (.slice (some ⟨vg,vo,none⟩) vn vc) (xs0++(xs++[⟨⟨r.key,S,C,U,X,Y,l⟩,.slice ta tn tc⟩])) 0):=HW5.out.kept hRk (fun k hk e=>HR5.out.apart HW5.out.row (.inl rfl) k hk (by rw [e];exact hfR)) (fun x hx k hk e=>HR5.out.apart (HW5.out.tags x hx).1 (.inr rfl) k hk (by rw [e];exact hfR))
      have HSF6:Hid (SF (w5.setCell ⟨R,3,none⟩ (.int .i64 (S+sc.slide))) g sc):=HSF5.out.congr (hRk.block g HSF5.out.lt (fun e=>(HR5.out.kinds (by rw [e];exact hfR)).ne (Cb.of HSF5.out.blk) (by decide) rfl))
      have KW6:Hid (Kept (fun k=>F0 k\/ov0.ownBlock=some k) w (w5.setCell ⟨R,3,none⟩ (.int .i64 (S+sc.slide)))):=KW5.out.setCell ⟨R,3,none⟩ _ (fun hh=>by
       rcases HF2.out R hfR with h5 | h5
       . exact .inl h5
       . simp only at hh;omega)
      clear a0 a1 a2 a3 a4 af c3 HR5 HW5 HSF5 KW5 hRk
      generalize w5.setCell ⟨R,3,none⟩ (.int .i64 (S+sc.slide))=W6 at *
      have HLv:Hid (Calls Tryz.prog 104 #[.pointer (some ⟨R,0,none⟩),.int .i64 (S+sc.slide)] W6 fun e w'=>e=.returned (.tuple #[])/\∃ d',RunAt w' d' (leaveS { entR r with next:=S+sc.slide } (S+sc.slide))/\d'.R=R/\(∀ k,d'.foot k->({ d with cv:=cv' }:RunD).foot k\/W6.heap.size<=k)/\Kept ({ d with cv:=cv' }:RunD).foot W6 w'):=by
       have h1:=leaveAt_any { d with cv:=cv' } { entR r with next:=S+sc.slide } (S+sc.slide) W6 HR6.out HL.out.small
       have e:(#[Value.pointer (some ⟨({ d with cv:=cv' }:RunD).R,0,none⟩),.int .i64 (S+sc.slide)]:Array Value)=#[.pointer (some ⟨R,0,none⟩),.int .i64 (S+sc.slide)]:=by rw [hdR2]
       rw [e] at h1
       refine h1.mono ?_
       rintro en w' ⟨h2,d',h3,h4,h5,h6⟩
       exact ⟨h2,d',h3,h4.trans hdR2,h5,h6⟩
      obtain ⟨a0,a1,a2,a3,a4,af⟩:=runAt HR6.out.run
      rw [hdR2] at a0 a1 a2 a3 a4 af
      go_wp2_with fail
      refine HLv.out.mono ?_
      rintro e W7 ⟨rfl,d7,hr7,hd7,hf7,hk7⟩
      have HStep:Hid (leaveS { entR r with next:=S+sc.slide } (S+sc.slide)=stepR sc.slide r):=by
       show _=_
       unfold stepR;rw [HSt.out]
      have hs6:=KW6.out.size
      have HN:Hid (SlLoop w W7 g sc F0 R ov0 xs0 r0.key RES N (.slice (some ⟨vg,vo,none⟩) vn vc) (xs++[⟨⟨r.key,S,C,U,X,Y,l⟩,.slice ta tn tc⟩]) d7 (stepR sc.slide r) (ws++[(S,q)]) n):=by
       have hdec:=stepR_next sc.slide sc.lt sc.size r hps hz1 hz2 (by rw [HSt.out];exact hf)
       have hfu:=HL.out.fuel
       have hfw:=HL.out.few
       have hln:=HL.out.len
       have hsl:=stepR_len sc.slide r
       have hsm:=HL.out.small
       refine ⟨HSF6.out.congr (hk7.block g HSF6.out.lt (fun hf=>(HR6.out.kinds hf).ne (Cb.of HSF6.out.blk) (by decide) rfl)),by rw [<- HStep.out];exact hr7,hd7,fun k hk=>?_,HW6.out.kept hk7 (fun k hk hf=>HR6.out.apart HW6.out.row (.inl rfl) k hk hf) (fun x hx k hk hf=>HR6.out.apart (HW6.out.tags x hx).1 (.inr rfl) k hk hf),by rw [List.length_append,List.length_append,hln];rfl,told_more hln HL.out.told HTold.out,HO5.out,HG5.out,KW6.out.step hk7 (fun k hk hf=>?_),HL.out.key,?_,by omega,hfw,by omega,HL.out.num.step sc.slide (by rw [HSt.out];omega) (by rw [HSt.out];omega),HAp.out⟩
       . rcases hf7 k hk with h5 | h5
         . exact HF2.out k h5
         . exact .inr (by omega)
       . rcases HF2.out k hf with h5 | h5
         . exact .inl h5
         . omega
       . rw [<- HQ.out];exact HRe.out
      clear hr7 hd7 hf7 hk7 a0 a1 a2 a3 a4 af
      go_wp2_with fail
      go_roundw
      case rel=>exact ⟨_,_,_,_,_,HN.out⟩
      case measure=>
       show xs0.length+N+1 - vn < xs0.length+N+1 - (xs0.length+xs.length)
       rw [hLenV.out];omega
    . rw [if_pos (.inr (by omega))] at hres
      have hdd:decide (S+sc.size<=sc.lt)=false:=decide_eq_false hf
      rw [hdd]
      have HRe:Hid ((r,ws)=RES):=hres
      clear hres
      go_wp2_with fail
      go_ret
      rw [<- HRe.out]
      exact ⟨_,xs,d,rfl,HL.out.sf.congr (by simp),HL.out.run.congr (fun _ _=>by simp),HL.out.dR,HL.out.foot,HL.out.wins.below (below_drewN (Below.refl _ wr) m),HL.out.len,HL.out.told,HL.out.own,HL.out.tg,HL.out.kept.drewN m,HL.out.ap⟩
end Go.Proofs.YtcfngdnmpogaoaaGreat
namespace Go.Proofs.YtcfngdnmpogaoaaGreat
open Go.RowKit Go.MuLone
variable {es gs:List RunX} {g:Nat} {r:SCells} {w:World}
theorem FlowAt.turnRun {w':World} {gs' es' pre post:List RunX} {x x':RunX} {X:Nat->Prop} (h:FlowAt w g r gs es) (e1:gs++es=pre++x :: post) (e2:gs'++es'=pre++x' :: post) (hgR:Rof gs'=Rof gs) (heR:Rof es'=Rof es) (hx':RunAt w' x'.d x'.r) (hk:Kept X w w') (hX:∀ k,flowFoot g r gs es k->X k->x.d.foot k) (hf:∀ k,x'.d.foot k->x.d.foot k\/w.heap.size<=k) :
 FlowAt w' g r gs' es':=by
 have hmx:x ∈ gs++es:=by rw [e1];simp
 have hsub:∀ y,y ∈ pre\/y ∈ post->y ∈ gs++es/\Apart y x:=fun y hy=>by
  have hd:=h.disj
  rw [e1,List.pairwise_append] at hd
  obtain ⟨_,d2,d3⟩:=hd
  rw [List.pairwise_cons] at d2
  rcases hy with hy | hy
  . exact ⟨by rw [e1];simp [hy],d3 y hy x (by simp)⟩
  . exact ⟨by rw [e1];simp [hy],(d2.1 y hy).symm⟩
 have hold:∀ y,y ∈ pre\/y ∈ post->RunAt w' y.d y.r:=fun y hy=>by
  obtain ⟨hm,ha⟩:=hsub y hy
  exact (h.runs y hm).kept hk (fun k h1 h2=>ha k h1 (hX k (.inr (.inr (.inr ⟨y,hm,h1⟩))) h2))
 have hap:∀ y,y ∈ pre\/y ∈ post->Apart y x':=fun y hy k h1 h2=>by
  obtain ⟨hm,ha⟩:=hsub y hy
  rcases hf k h2 with h3 | h3
  . exact ha k h1 h3
  . have:=(h.runs y hm).lt h1;omega
 refine ⟨h.sf.congr (hk.block g h.sf.lt (fun e=>(h.runNe hmx (hX g (.inl rfl) e)).1 rfl)),?_,?_,h.rows,?_,?_⟩
 . rw [hgR];exact h.going.kept hk (fun k hkk e=>(h.runNe hmx (hX k (.inr (.inl hkk)) e)).2.1 hkk)
 . rw [heR];exact h.ended.kept hk (fun k hkk e=>(h.runNe hmx (hX k (.inr (.inr (.inl hkk))) e)).2.2 hkk)
 . intro y hy
   rw [e2] at hy
   simp only [List.mem_append,List.mem_cons] at hy
   rcases hy with hy | rfl | hy
   . exact hold y (.inl hy)
   . exact hx'
   . exact hold y (.inr hy)
 . have hd:=h.disj
   rw [e1,List.pairwise_append] at hd
   rw [e2,List.pairwise_append]
   obtain ⟨d1,d2,d3⟩:=hd
   rw [List.pairwise_cons] at d2 ⊢
   refine ⟨d1,⟨fun y hy=>(hap y (.inr hy)).symm,d2.2⟩,fun y hy z hz=>?_⟩
   rcases List.mem_cons.1 hz with rfl | hz
   . exact hap y (.inl hy)
   . exact d3 y hy z (by simp [hz])
theorem FlowAt.apartW {e:TypeId} {sz:Nat} {v:Value} {xs:List Value} (h:FlowAt w g r gs es) (hr:Row w e sz v xs) (he:e=70\/e=26):∀ k,v.ownBlock=some k->¬ flowFoot g r gs es k:=fun k hk hf=>by
 rcases hf with rfl | hf | hf | ⟨x,hx,hf⟩
 . rcases he with rfl | rfl
   . exact (hr.cb hk).ne (Cb.of h.sf.blk) (by decide) rfl
   . exact (hr.cb hk).ne (Cb.of h.sf.blk) (by decide) rfl
 . rcases he with rfl | rfl
   . exact (hr.cb hk).ne (h.going.cb hf) (by decide) rfl
   . exact (hr.cb hk).ne (h.going.cb hf) (by decide) rfl
 . rcases he with rfl | rfl
   . exact (hr.cb hk).ne (h.ended.cb hf) (by decide) rfl
   . exact (hr.cb hk).ne (h.ended.cb hf) (by decide) rfl
 . exact (h.runs x hx).apart hr he k hk hf
structure TkLoop (w wr:World) (g:Nat) (r:SCells) (F0:Nat->Prop) (gs es:List RunX) (ov:Value) (xs:List WinX):Prop where
 flow:FlowAt wr g r gs es
 wins:WinsAt wr ov xs 0
 foot:∀ k,flowFoot g r gs es k->F0 k\/w.heap.size<=k
 own:∀ k,ov.ownBlock=some k->w.heap.size<=k
 tg:∀ x ∈ xs,∀ k,x.tv.ownBlock=some k->w.heap.size<=k
 kept:Kept F0 w wr
 ap:xs.Pairwise tvAp
theorem TkLoop.step {wr w':World} {F0:Nat->Prop} {gs' es' pre post:List RunX} {ov ov':Value} {xs ys:List WinX} {x x':RunX} (h:TkLoop w wr g r F0 gs es ov xs) (e1:gs++es=pre++x :: post) (e2:gs'++es'=pre++x' :: post) (hgR:Rof gs'=Rof gs) (heR:Rof es'=Rof es)
 (hx':RunAt w' x'.d x'.r) (hf:∀ k,x'.d.foot k->x.d.foot k\/wr.heap.size<=k) (hw:WinsAt w' ov' (xs++ys) 0) (ho:∀ k,ov'.ownBlock=some k->ov.ownBlock=some k\/wr.heap.size<=k) (ht:∀ y ∈ ys,∀ k,y.tv.ownBlock=some k->wr.heap.size<=k) (hk:Kept (fun k=>x.d.foot k\/ov.ownBlock=some k) wr w') (hap:ys.Pairwise tvAp) :
 TkLoop w w' g r F0 gs' es' ov' (xs++ys):=by
 have hsz:=h.kept.size
 have hmx:x ∈ gs++es:=by rw [e1];simp
 have hfoot:∀ k,flowFoot g r gs' es' k->flowFoot g r gs es k\/wr.heap.size<=k:=fun k hk2=>by
  rcases hk2 with rfl | hk2 | hk2 | ⟨y,hy,hk2⟩
  . exact .inl (.inl rfl)
  . exact .inl (.inr (.inl hk2))
  . exact .inl (.inr (.inr (.inl hk2)))
  . rw [e2] at hy
    simp only [List.mem_append,List.mem_cons] at hy
    rcases hy with hy | rfl | hy
    . exact .inl (.inr (.inr (.inr ⟨y,by rw [e1];simp [hy],hk2⟩)))
    . rcases hf k hk2 with h3 | h3
      . exact .inl (.inr (.inr (.inr ⟨x,hmx,h3⟩)))
      . exact .inr h3
    . exact .inl (.inr (.inr (.inr ⟨y,by rw [e1];simp [hy],hk2⟩)))
 refine ⟨h.flow.turnRun e1 e2 hgR heR hx' hk (fun k hff hX=>?_) hf,hw,fun k hk2=>?_,fun k hk2=>?_,fun y hy k hk2=>?_,h.kept.step hk (fun k hk2 hX=>?_),List.pairwise_append.2 ⟨h.ap,hap,fun a ha b hb k h1 h2=>by have:=((h.wins.tags a ha).1.blk_lt h1).1;have:=ht b hb k h2;omega⟩⟩
 . rcases hX with h3 | h3
   . exact h3
   . exact absurd hff (h.flow.apartW h.wins.row (.inl rfl) k h3)
 . rcases hfoot k hk2 with h3 | h3
   . exact h.foot k h3
   . exact .inr (by omega)
 . rcases ho k hk2 with h3 | h3
   . exact h.own k h3
   . omega
 . rcases List.mem_append.1 hy with hy | hy
   . exact h.tg y hy k hk2
   . have:=ht y hy k hk2;omega
 . rcases hX with h3 | h3
   . rcases h.foot k (.inr (.inr (.inr ⟨x,hmx,h3⟩))) with h4 | h4
     . exact h4
     . omega
   . have:=h.own k h3;omega
end Go.Proofs.YtcfngdnmpogaoaaGreat
namespace Go.Proofs.YtcfngdnmpogaoaaGreat
open Go.RowKit Go.MuLone
structure TkOk (st:St) (E:List Ev) (T:Option Int):Prop where
 mod:Mod st E T
 li:E ≠ []->st.li=true
 few:E.length<=200000
 conf:st.size<=4096*st.slide
 lt:st.lt<=2305843009213693952
theorem slide_tk (HRis:RisingOk) {w wr:World} {g:Nat} {r:SCells} {F0:Nat->Prop} {GS ES gs es pre post:List RunX} {ov:Value} {xs:List WinX} {x:RunX} {E:List Ev} {T:Option Int} {a b:List RunS} (hO:TkOk (stOf r GS ES) E T) (h:TkLoop w wr g r F0 gs es ov xs) (hxs:xs.map WinX.w=outAll (stOf r GS ES) E a) (hrs:(stOf r GS ES).es++(stOf r GS ES).gs=a++x.r :: b) (e1:gs++es=pre++x :: post) :
 Calls Tryz.prog 73 #[.pointer (some ⟨g,0,none⟩),ov,.pointer (some ⟨x.d.R,0,none⟩)] wr fun e w'=>∃ ov' ys x',e=.returned ov'/\x'.r=(slidR (stOf r GS ES) x.r).1/\x'.d.R=x.d.R/\(xs++ys).map WinX.w=outAll (stOf r GS ES) E (a++[x.r]) /\
  ∀ gs' es',gs'++es'=pre++x' :: post->Rof gs'=Rof gs->Rof es'=Rof es->TkLoop w w' g r F0 gs' es' ov' (xs++ys):=by
 have hM:=hO.mod
 have hmx:x ∈ gs++es:=by rw [e1];simp
 have hr:x.r ∈ (stOf r GS ES).es++(stOf r GS ES).gs:=by rw [hrs];simp
 have hlen:=hM.run_len hr
 have hfew:=hO.few
 have hout:=hM.out_len hO.li hO.conf
 have hpart:=outAll_part (st:=stOf r GS ES) (E:=E) hrs
 have hxl:xs.length=(outAll (stOf r GS ES) E a).length:=by rw [<- hxs,List.length_map]
 have h3:r.size<=1099511627776:=hM.conf.s3
 have h1:1<=r.slide:=hM.conf.s1
 have h2:r.slide<=r.size:=hM.conf.s2
 have hlt:r.lt<=2305843009213693952:=hO.lt
 refine (slide_of HRis g r x.d x.r ov xs wr (slidR (stOf r GS ES) x.r).2.length h.flow.sf (h.flow.runs x hmx) h.wins (hM.num hO.lt hr) (by omega) h1 (by omega) h3 (by omega) hlt (Nat.le_refl _) (by omega)).mono ?_
 rintro e w' ⟨ov',ys,d',rfl,_,hra,hdR,hdf,hw,hyl,hyt,hov,htg,hk,hap⟩
 have hys:ys.map WinX.w=outW (stOf r GS ES) E x.r:=by
  refine hM.outW_of hr (by omega) (by rw [List.length_map];exact hyl) (fun i y s hy hs=>?_)
  rw [List.getElem?_map,Option.map_eq_some_iff] at hy
  obtain ⟨z,hz,rfl⟩:=hy
  exact hyt i z s hz hs
 refine ⟨ov',ys,⟨d',(slidR (stOf r GS ES) x.r).1⟩,rfl,rfl,hdR,?_,fun gs' es' e2 hgR heR=>h.step e1 e2 hgR heR hra hdf hw hov htg hk hap⟩
 rw [List.map_append,hxs,hys]
 unfold outAll
 rw [List.flatMap_append]
 simp
end Go.Proofs.YtcfngdnmpogaoaaGreat
namespace Go.Proofs.YtcfngdnmpogaoaaGreat
open Go.RowKit Go.MuLone
variable {E:List Ev} {ES GS es1:List RunX} {F0:Nat->Prop} {g k:Nat} {ov:Value} {r:SCells} {w wr:World} {xs:List WinX}
theorem take_one {α:Type} {l:List α} {k:Nat} {x:α} (h:l[k]?=some x):l.take (k+1)=l.take k++[x]/\l.drop k=x :: l.drop (k+1):=by
 obtain ⟨hk,rfl⟩:=List.getElem?_eq_some_iff.1 h
 exact ⟨List.take_succ_eq_append_getElem hk,List.drop_eq_getElem_cons hk⟩
structure TkE (w wr:World) (g:Nat) (r:SCells) (F0:Nat->Prop) (GS ES:List RunX) (E:List Ev) (k:Nat) (ov:Value) (es1:List RunX) (xs:List WinX):Prop where
 lp:TkLoop w wr g r F0 GS (es1++ES.drop k) ov xs
 R:Rof es1=Rof (ES.take k)
 out:xs.map WinX.w=outAll (stOf r GS ES) E (rsOf (ES.take k))
theorem TkE.Rall (h:TkE w wr g r F0 GS ES E k ov es1 xs):Rof (es1++ES.drop k)=Rof ES:=by
 rw [Rof_append,h.R,<- Rof_append,List.take_append_drop]
theorem TkE.slide (HRis:RisingOk) {w wr:World} {g:Nat} {r:SCells} {F0:Nat->Prop} {GS ES:List RunX} {E:List Ev} {T:Option Int} {k:Nat} {ov:Value} {es1:List RunX} {xs:List WinX} {x:RunX} (h:TkE w wr g r F0 GS ES E k ov es1 xs) (hO:TkOk (stOf r GS ES) E T) (hx:ES[k]?=some x) :
 Calls Tryz.prog 73 #[.pointer (some ⟨g,0,none⟩),ov,.pointer (some ⟨x.d.R,0,none⟩)] wr fun e w'=>∃ ov' ys es2,e=.returned ov'/\TkE w w' g r F0 GS ES E (k+1) ov' es2 ys:=by
 obtain ⟨t1,t2⟩:=take_one hx
 have hrs:(stOf r GS ES).es++(stOf r GS ES).gs=rsOf (ES.take k)++x.r :: (rsOf (ES.drop (k+1))++rsOf GS):=by
  show rsOf ES++rsOf GS=_
  have:rsOf ES=rsOf (ES.take k)++rsOf (ES.drop k):=by rw [<- rsOf_append,List.take_append_drop]
  rw [this,t2];simp [rsOf]
 have e1:GS++(es1++ES.drop k)=(GS++es1)++x :: ES.drop (k+1):=by rw [t2,List.append_assoc]
 refine (slide_tk HRis hO h.lp h.out hrs e1).mono ?_
 rintro e w' ⟨ov',ys,x',rfl,_,hR,ho,hst⟩
 refine ⟨ov',xs++ys,es1++[x'],rfl,hst GS ((es1++[x'])++ES.drop (k+1)) (by simp) rfl ?_,?_,?_⟩
 . rw [t2,Rof_append,Rof_append,Rof_append];simp [Rof,hR]
 . rw [t1,Rof_append,Rof_append,h.R];simp [Rof,hR]
 . rw [ho,t1,rsOf_append];rfl
structure TkG (w wr:World) (g:Nat) (r:SCells) (F0:Nat->Prop) (GS ES:List RunX) (E:List Ev) (k:Nat) (ov:Value) (gs1 es1:List RunX) (xs:List WinX):Prop where
 lp:TkLoop w wr g r F0 (gs1++GS.drop k) es1 ov xs
 R:Rof gs1=Rof (GS.take k)
 S:rsOf gs1=(rsOf (GS.take k)).map fun q=>(slidR (stOf r GS ES) q).1
 out:xs.map WinX.w=outAll (stOf r GS ES) E (rsOf ES++rsOf (GS.take k))
theorem TkG.Rall {gs1:List RunX} (h:TkG w wr g r F0 GS ES E k ov gs1 es1 xs):Rof (gs1++GS.drop k)=Rof GS:=by
 rw [Rof_append,h.R,<- Rof_append,List.take_append_drop]
theorem TkE.last (h:TkE w wr g r F0 GS ES E k ov es1 xs) (hk:ES.length<=k):TkG w wr g r F0 GS ES E 0 ov [] es1 xs:=by
 have h1:=h.lp
 rw [List.drop_eq_nil_of_le hk,List.append_nil] at h1
 have h2:=h.out
 rw [List.take_of_length_le hk] at h2
 exact ⟨by simpa using h1,rfl,rfl,by rw [h2];simp [rsOf]⟩
theorem TkG.slide (HRis:RisingOk) {w wr:World} {g:Nat} {r:SCells} {F0:Nat->Prop} {GS ES:List RunX} {E:List Ev} {T:Option Int} {k:Nat} {ov:Value} {gs1 es1:List RunX} {xs:List WinX} {x:RunX} (h:TkG w wr g r F0 GS ES E k ov gs1 es1 xs) (hO:TkOk (stOf r GS ES) E T) (hx:GS[k]?=some x) :
 Calls Tryz.prog 73 #[.pointer (some ⟨g,0,none⟩),ov,.pointer (some ⟨x.d.R,0,none⟩)] wr fun e w'=>∃ ov' ys gs2,e=.returned ov'/\TkG w w' g r F0 GS ES E (k+1) ov' gs2 es1 ys:=by
 obtain ⟨t1,t2⟩:=take_one hx
 have hrs:(stOf r GS ES).es++(stOf r GS ES).gs=(rsOf ES++rsOf (GS.take k))++x.r :: rsOf (GS.drop (k+1)):=by
  show rsOf ES++rsOf GS=_
  have:rsOf GS=rsOf (GS.take k)++rsOf (GS.drop k):=by rw [<- rsOf_append,List.take_append_drop]
  rw [this,t2];simp [rsOf]
 have e1:(gs1++GS.drop k)++es1=gs1++x :: (GS.drop (k+1)++es1):=by rw [t2];simp
 refine (slide_tk HRis hO h.lp h.out hrs e1).mono ?_
 rintro e w' ⟨ov',ys,x',rfl,hr',hR,ho,hst⟩
 refine ⟨ov',xs++ys,gs1++[x'],rfl,hst ((gs1++[x'])++GS.drop (k+1)) es1 (by simp) ?_ rfl,?_,?_,?_⟩
 . rw [t2,Rof_append,Rof_append,Rof_append];simp [Rof,hR]
 . rw [t1,Rof_append,Rof_append,h.R];simp [Rof,hR]
 . rw [t1,rsOf_append,rsOf_append,List.map_append,h.S];simp [rsOf,hr']
 . rw [ho,t1,rsOf_append,List.append_assoc];rfl
end Go.Proofs.YtcfngdnmpogaoaaGreat
