import Derived.Test.YtcfngdnmpogaoaaGreatTkU03
import Derived.BigQuiet
import Derived.Test.YtcfngdnmpogaoaaGreatTkT16
import Derived.Test.YtcfngdnmpogaoaaGreatTkU07
import Derived.Test.YtcfngdnmpogaoaaGreatTkT08
namespace Go.Proofs.YtcfngdnmpogaoaaGreat
open Go.RowKit Go.MuLone
set_option maxHeartbeats 12800000
set_option maxRecDepth 20000
structure LvRun (w wr:World) (F0:Nat->Prop) (R b:Nat) (r:RunS) (start:Int) (pv:Value) (Ps:List (Nat × Nat)) (cv gv:Value) (r1:RunS):Prop where
 run:RunAt wr ⟨R,pv,Ps,b,cv,gv⟩ r1
 foot:∀ k,(⟨R,pv,Ps,b,cv,gv⟩:RunD).foot k->F0 k\/w.heap.size<=k
 kept:Kept F0 w wr
 lv:leaveS r1 start=leaveS r start
 len:r1.ps.length<=r.ps.length
theorem leaveAt_any (d:RunD) (r:RunS) (start:Int) (w:World) (h:RunAt w d r) (hl:r.ps.length<=400000000) :
 Calls Tryz.prog 104 #[.pointer (some ⟨d.R,0,none⟩),.int .i64 start] w fun e w'=>e=.returned (.tuple #[])/\∃ d',RunAt w' d' (leaveS r start)/\d'.R=d.R/\(∀ k,d'.foot k->d.foot k\/w.heap.size<=k)/\Kept d.foot w w':=by
 obtain ⟨R,pv0,Ps0,b,cv0,gv0⟩:=d
 obtain ⟨F0,HF0⟩:∃ F0,Hid ((⟨R,pv0,Ps0,b,cv0,gv0⟩:RunD).foot=F0):=⟨_,rfl⟩
 have HS:Hid (LvRun w w F0 R b r start pv0 Ps0 cv0 gv0 r):=⟨h,fun k hk=>.inl (by rw [<- HF0.out];exact hk),Kept.refl _ w,rfl,Nat.le_refl _⟩
 rw [HF0.out]
 clear h
 go_enter Tryz.func104,Tryz.ntmps104
 go_wp2_with fail
 go_loopw [5] (fun _ wr=>∃ pv Ps cv gv r1,LvRun w wr F0 R b r start pv Ps cv gv r1) (fun _ wr=>insOf R wr)
 case atStart=>exact ⟨_,_,_,_,_,HS.out⟩
 case round=>
  obtain ⟨pv,Ps1,cv,gv,r1,hL⟩:=hrel
  obtain ⟨key,ps1,n,next⟩:=r1
  have HL:Hid (LvRun w wr F0 R b r start pv Ps1 cv gv ⟨key,ps1,n,next⟩):=hL
  obtain ⟨r0,r1,r2,r3,r4,rf⟩:=runAt hL.run.run
  have HIns:Hid (insOf R wr=n):=by show _=_;unfold insOf;rw [r2];simp
  have hins:n<=ps1.length:=hL.run.ins
  have hlen1:ps1.length<=r.ps.length:=hL.len
  cases n with
  | zero=>
    have HEn:Hid (leaveS r start=⟨key,ps1,0,next⟩):=HL.out.lv.symm.trans (leaveS_stop (fun hh=>absurd hh (Nat.lt_irrefl 0)))
    clear hL
    go_wp2
    go_end0
    rw [HEn.out]
    exact ⟨rfl,_,HL.out.run,rfl,HL.out.foot,HL.out.kept⟩
  | succ m=>
    cases ps1 with
    | nil=>simp at hins
    | cons p ps=>
      have hlenP:=hL.run.len
      simp only [List.length_cons] at hlenP hlen1 hins
      obtain ⟨⟨P,M⟩,Ps,rfl⟩:∃ x Ps,Ps1=x :: Ps:=by
       cases Ps1 with
       | nil=>simp at hlenP
       | cons x Ps=>exact ⟨x,Ps,rfl⟩
      have hlenP2:Ps.length=ps.length:=by simpa using hlenP
      obtain ⟨pa,pc,hpv0,-⟩:=hL.run.panes.len (by decide)
      simp only [List.map_cons,List.length_cons,List.length_map,Nat.div_one,hlenP2] at hpv0
      subst hpv0
      obtain ⟨pg,po,rfl⟩:=slice_some hL.run.panes (by omega)
      have hpa:PaneAt wr P M p:=hL.run.each 0 P M p rfl rfl
      obtain ⟨-,c1,-⟩:=paneAt hpa.pane
      have hq:wr.cell? ⟨pg,po,none⟩=some (.pointer (some ⟨P,0,none⟩)):=hL.run.panes.cell 0 (by omega)
      have hm0:(0:Int) < ((m+1:Nat):Int):=by omega
      have hm1:(0:Int) < (m:Int)+1:=by omega
      have hl0:(0:Int) < ((ps.length+1:Nat):Int):=by omega
      have hl1:(0:Int) < (ps.length:Int)+1:=by omega
      clear hlenP hlenP2
      by_cases hst:p.last < start
      . have HPn:Hid (∀ (W:World) (cv1 gv1:Value) {p1 p2 p3:List Pane},RunMid W ⟨R,(.slice (some ⟨pg,po,none⟩) (ps.length+1) pc),(P,M) :: Ps,b,cv1,gv1⟩ ⟨key,p :: ps,m+1,next⟩ (m+1) p1 p2 p3->W.cell? ⟨pg,po,none⟩=some (.pointer (some ⟨P,0,none⟩))):=fun W cv1 gv1 p1 p2 p3 hW=>hW.panes.cell 0 (by show 0 < (ps.length+1)*1;omega)
        have HPa:Hid (∀ (W:World) (cv1 gv1:Value) {p1 p2 p3:List Pane},RunMid W ⟨R,(.slice (some ⟨pg,po,none⟩) (ps.length+1) pc),(P,M) :: Ps,b,cv1,gv1⟩ ⟨key,p :: ps,m+1,next⟩ (m+1) p1 p2 p3->PaneAt W P M p):=fun W cv1 gv1 p1 p2 p3 hW=>hW.each 0 P M p rfl rfl
        have hMb:M ≠ b+2:=hL.run.tcM (P,M) (List.mem_cons_self ..)
        have HW1:Hid (RunMid wr ⟨R,(.slice (some ⟨pg,po,none⟩) (ps.length+1) pc),(P,M) :: Ps,b,cv,gv⟩ ⟨key,p :: ps,m+1,next⟩ (m+1) (p :: ps.take m) (p :: ps.take m) (p :: ps.take m)):=hL.run.mid
        have KW1:Hid (Kept F0 w wr):=hL.kept
        have HPf:Hid (∀ k,partsFoot b cv gv k->F0 k\/w.heap.size<=k):=fun k hk=>hL.foot k (.inr (.inr (.inr hk)))
        have HRf:Hid (F0 R\/w.heap.size<=R):=hL.foot R (.inl rfl)
        have HGf:Hid (F0 pg\/w.heap.size<=pg):=hL.foot pg (.inr (.inl rfl))
        have HTf:Hid (∀ q ∈ Ps,∀ k,k=q.1\/k=q.2->F0 k\/w.heap.size<=k):=fun q hq k hk=>hL.foot k (.inr (.inr (.inl ⟨q,List.mem_cons_of_mem _ hq,hk⟩)))
        have hcap:ps.length+1<=pc:=(rowTail hL.run.panes).2
        clear hL hpa
        have na0:∀ W:World,(nilAhead 396 212 (.pointer (some ⟨b,0,none⟩)) "sill/sill.leave").run Tryz.prog W=.ok (some false) W:=fun _=>by kernel_rfl
        have me0:∀ W:World,(method 396 212 (.pointer (some ⟨b,0,none⟩)) "sill/sill.leave").run Tryz.prog W=.ok (208,(.pointer (some ⟨b,0,none⟩))) W:=fun _=>by kernel_rfl
        have ec0:=enterTLA
        have na1:∀ W:World,(nilAhead 396 215 (.pointer (some ⟨b+1,0,none⟩)) "sill/sill.leave").run Tryz.prog W=.ok (some false) W:=fun _=>by kernel_rfl
        have me1:∀ W:World,(method 396 215 (.pointer (some ⟨b+1,0,none⟩)) "sill/sill.leave").run Tryz.prog W=.ok (210,(.pointer (some ⟨b+1,0,none⟩))) W:=fun _=>by kernel_rfl
        have ec1:=enterBLA
        have na2:∀ W:World,(nilAhead 396 218 (.map (some (b+2))) "sill/sill.leave").run Tryz.prog W=.ok (some false) W:=fun _=>by kernel_rfl
        have me2:∀ W:World,(method 396 218 (.map (some (b+2))) "sill/sill.leave").run Tryz.prog W=.ok (214,(.map (some (b+2)))) W:=fun _=>by kernel_rfl
        have ec2:=enterGLA
        have p0:=blkCell HW1.out.parts.all (i:=0) rfl
        go_wp2_with fail
        refine wp_loop_rounds 4 ?_
        rw [rounds_succ]
        go_upto_region 4 with fail
        clear r0 r1 r2 r3 r4 rf hq c1 p0
        refine wp_region_still_tail 10 (by kernel_rfl) (by kernel_rfl) ?_
        simp only [List.take_succ_cons,List.take_zero,List.drop_succ_cons,List.drop_zero]
        change wpStill Tryz.prog _ wr.drew (fun a'=>wpList Tryz.prog _ _ _ a' wr.drew) _ _
        have HW2:Hid (RunMid wr.drew ⟨R,(.slice (some ⟨pg,po,none⟩) (ps.length+1) pc),(P,M) :: Ps,b,cv,gv⟩ ⟨key,p :: ps,m+1,next⟩ (m+1) (p :: ps.take m) (p :: ps.take m) (p :: ps.take m)):=HW1.out.same rfl
        have KW2:Hid (Kept F0 w wr.drew):=KW1.out.drew
        clear HW1 KW1
        generalize wr.drew=W2 at *
        obtain ⟨r0,r1,r2,r3,r4,rf⟩:=runAt HW2.out.run
        have hq:=HPn.out W2 _ _ HW2.out
        repeat still_step
        refine wpStill_nil ?_
        go_wp2_with fail
        clear r0 r1 r2 r3 r4 rf hq
        refine (mid_leave1 b P M p cv gv _ _ _ W2 HW2.out.parts (HPa.out W2 _ _ HW2.out)).mono ?_
        rintro e W3 ⟨rfl,hm3,hk3⟩
        have HW3:Hid (RunMid W3 ⟨R,(.slice (some ⟨pg,po,none⟩) (ps.length+1) pc),(P,M) :: Ps,b,cv,gv⟩ ⟨key,p :: ps,m+1,next⟩ (m+1) (ps.take m) (p :: ps.take m) (p :: ps.take m)):=HW2.out.turn (hk3.mono (fun k _ e=>.inl (by have e:k=b:=e;show b<=k/\k<=b+3;omega))) hm3
        have KW3:Hid (Kept F0 w W3):=KW2.out.step hk3 (fun k hk e=>by
         rcases HPf.out k (.inl (by have e:k=b:=e;show b<=k/\k<=b+3;omega)) with h5 | h5
         . exact h5
         . omega)
        clear hm3 hk3 HW2 KW2 na0 me0 ec0
        go_wp2_with fail
        have p1:=blkCell HW3.out.parts.all (i:=1) rfl
        obtain ⟨r0,r1,r2,r3,r4,rf⟩:=runAt HW3.out.run
        rw [rounds_succ]
        go_upto_region 4 with fail
        clear r0 r1 r2 r3 r4 rf p1
        refine wp_region_still_tail 10 (by kernel_rfl) (by kernel_rfl) ?_
        simp only [List.take_succ_cons,List.take_zero,List.drop_succ_cons,List.drop_zero]
        change wpStill Tryz.prog _ W3.drew (fun a'=>wpList Tryz.prog _ _ _ a' W3.drew) _ _
        have HW4:Hid (RunMid W3.drew ⟨R,(.slice (some ⟨pg,po,none⟩) (ps.length+1) pc),(P,M) :: Ps,b,cv,gv⟩ ⟨key,p :: ps,m+1,next⟩ (m+1) (ps.take m) (p :: ps.take m) (p :: ps.take m)):=HW3.out.same rfl
        have KW4:Hid (Kept F0 w W3.drew):=KW3.out.drew
        clear HW3 KW3
        generalize W3.drew=W4 at *
        obtain ⟨r0,r1,r2,r3,r4,rf⟩:=runAt HW4.out.run
        have hq:=HPn.out W4 _ _ HW4.out
        repeat still_step
        refine wpStill_nil ?_
        go_wp2_with fail
        clear r0 r1 r2 r3 r4 rf hq
        refine (mid_leave2 b _ p cv gv _ _ _ W4 HW4.out.parts (by rw [List.length_take];omega)).mono ?_
        rintro e W5 ⟨rfl,cv',gv',hm5,hc5,ho5,hk5⟩
        have HW5:Hid (RunMid W5 ⟨R,(.slice (some ⟨pg,po,none⟩) (ps.length+1) pc),(P,M) :: Ps,b,cv',gv'⟩ ⟨key,p :: ps,m+1,next⟩ (m+1) (ps.take m) (ps.take m) (p :: ps.take m)):=HW4.out.turn (hk5.mono (fun k _ e=>by rcases e with e | e;(exact .inl (by have e:k=b+1:=e;show b<=k/\k<=b+3;omega));exact .inr (.inr e))) hm5
        have HPf5:Hid (∀ k,partsFoot b cv' gv' k->F0 k\/w.heap.size<=k):=fun k hk=>by
         rcases hk with e | e | e
         . exact HPf.out k (.inl e)
         . exact HPf.out k (.inr (.inl (by rw [<- hc5];exact e)))
         . rcases ho5 k e with e2 | e2
           . exact HPf.out k (.inr (.inr e2))
           . have:=KW4.out.size;exact .inr (by omega)
        have KW5:Hid (Kept F0 w W5):=KW4.out.step hk5 (fun k hk e=>by
         have h6:partsFoot b cv gv k:=by rcases e with e | e;(exact .inl (by have e:k=b+1:=e;show b<=k/\k<=b+3;omega));exact .inr (.inr e)
         rcases HPf.out k h6 with h5 | h5
         . exact h5
         . omega)
        clear hm5 hk5 ho5 hc5 HW4 KW4 na1 me1 ec1 HPf
        go_wp2_with fail
        have p2:=blkCell HW5.out.parts.all (i:=2) rfl
        obtain ⟨r0,r1,r2,r3,r4,rf⟩:=runAt HW5.out.run
        rw [rounds_succ]
        go_upto_region 4 with fail
        clear r0 r1 r2 r3 r4 rf p2
        refine wp_region_still_tail 10 (by kernel_rfl) (by kernel_rfl) ?_
        simp only [List.take_succ_cons,List.take_zero,List.drop_succ_cons,List.drop_zero]
        change wpStill Tryz.prog _ W5.drew (fun a'=>wpList Tryz.prog _ _ _ a' W5.drew) _ _
        have HW6:Hid (RunMid W5.drew ⟨R,(.slice (some ⟨pg,po,none⟩) (ps.length+1) pc),(P,M) :: Ps,b,cv',gv'⟩ ⟨key,p :: ps,m+1,next⟩ (m+1) (ps.take m) (ps.take m) (p :: ps.take m)):=HW5.out.same rfl
        have KW6:Hid (Kept F0 w W5.drew):=KW5.out.drew
        clear HW5 KW5
        generalize W5.drew=W6 at *
        obtain ⟨r0,r1,r2,r3,r4,rf⟩:=runAt HW6.out.run
        have hq:=HPn.out W6 _ _ HW6.out
        repeat still_step
        refine wpStill_nil ?_
        go_wp2_with fail
        clear r0 r1 r2 r3 r4 rf hq
        refine (mid_leave3 b P M p cv' gv' _ _ _ W6 HW6.out.parts (HPa.out W6 _ _ HW6.out) hMb (by rw [List.length_take];omega)).mono ?_
        rintro e W7 ⟨rfl,hm7,hk7⟩
        have HW7:Hid (RunMid W7 ⟨R,(.slice (some ⟨pg,po,none⟩) (ps.length+1) pc),(P,M) :: Ps,b,cv',gv'⟩ ⟨key,p :: ps,m+1,next⟩ (m+1) (ps.take m) (ps.take m) (ps.take m)):=HW6.out.turn (hk7.mono (fun k _ e=>.inl (by have e:k=b+2:=e;show b<=k/\k<=b+3;omega))) hm7
        have KW7:Hid (Kept F0 w W7):=KW6.out.step hk7 (fun k hk e=>by
         rcases HPf5.out k (.inl (by have e:k=b+2:=e;show b<=k/\k<=b+3;omega)) with h5 | h5
         . exact h5
         . omega)
        clear hm7 hk7 HW6 KW6 na2 me2 ec2
        go_wp2_with fail
        rw [rounds_succ]
        obtain ⟨r0,r1,r2,r3,r4,rf⟩:=runAt HW7.out.run
        have hq:=HPn.out W7 _ _ HW7.out
        have fq:W7.frozen? ⟨pg,po,none⟩=false:=HW7.out.panes.frozen po
        have hpgR:pg ≠ R:=((HW7.out.panes.cb (k:=pg) rfl)).ne (Cb.of HW7.out.run) (by decide)
        have hRpg:R ≠ pg:=Ne.symm hpgR
        have hc1:(1:Int)<=((ps.length+1:Nat):Int):=by omega
        have hc2:(1:Int)<=(ps.length:Int)+1:=by omega
        have hc3:(ps.length+1:Nat)<=pc:=hcap
        have hwm:wrap64 (m:Int)=(m:Int):=by unfold wrap64;omega
        have hwm2:IntKind.i64.wrap ((m:Int)+1 - 1)=(m:Int):=by rw [IntKind.wrap_i64];omega
        go_wp2_with fail
        have HW8:Hid (RunAt (((W7.setCell ⟨pg,po,none⟩ (.pointer none)).setCell ⟨R,1,none⟩ (cutV pg po ps.length pc)).setCell ⟨R,2,none⟩ (.int .i64 (m:Int))) ⟨R,cutV pg po ps.length pc,Ps,b,cv',gv'⟩ ⟨key,ps,m,next⟩):=HW7.out.shift rfl rfl
        have KW8:Hid (Kept F0 w (((W7.setCell ⟨pg,po,none⟩ (.pointer none)).setCell ⟨R,1,none⟩ (cutV pg po ps.length pc)).setCell ⟨R,2,none⟩ (.int .i64 (m:Int)))):=by
         refine Kept.setCell (Kept.setCell (Kept.setCell KW7.out ⟨pg,po,none⟩ _ (fun hh=>?_)) ⟨R,1,none⟩ _ (fun hh=>?_)) ⟨R,2,none⟩ _ (fun hh=>?_)
         . rcases HGf.out with h5 | h5
           . exact h5
           . simp only at hh;omega
         . rcases HRf.out with h5 | h5
           . exact h5
           . simp only at hh;omega
         . rcases HRf.out with h5 | h5
           . exact h5
           . simp only at hh;omega
        have HN:Hid (LvRun w (((W7.setCell ⟨pg,po,none⟩ (.pointer none)).setCell ⟨R,1,none⟩ (cutV pg po ps.length pc)).setCell ⟨R,2,none⟩ (.int .i64 (m:Int))) F0 R b r start (cutV pg po ps.length pc) Ps cv' gv' ⟨key,ps,m,next⟩):=by
         refine ⟨HW8.out,fun k hk=>?_,KW8.out,(leaveS_step hst).symm.trans HL.out.lv,by show ps.length<=r.ps.length;omega⟩
         rcases hk with hk | hk | ⟨q,hq,hk⟩ | hk
         . rw [hk];exact HRf.out
         . have hk2:(cutV pg po ps.length pc).ownBlock=some k:=hk
           rw [cutV_own] at hk2
           simp only [Option.some.injEq] at hk2
           rw [<- hk2];exact HGf.out
         . exact HTf.out q hq k hk
         . exact HPf5.out k hk
        have HI8:Hid (insOf R (((W7.setCell ⟨pg,po,none⟩ (.pointer none)).setCell ⟨R,1,none⟩ (cutV pg po ps.length pc)).setCell ⟨R,2,none⟩ (.int .i64 (m:Int)))=m):=by
         show _=_
         obtain ⟨-,-,s2,-⟩:=runAt HW8.out.run
         unfold insOf;rw [s2];simp
        refine ⟨⟨cutV pg po ps.length pc,Ps,cv',gv',⟨key,ps,m,next⟩,HN.out⟩,?_⟩
        rw [HIns.out]
        have:=HI8.out
        unfold cutV at this
        rw [this];omega
      . have HEn:Hid (leaveS r start=⟨key,p :: ps,m+1,next⟩):=HL.out.lv.symm.trans (leaveS_stop (fun _ q hq=>by simp only [List.getElem?_cons_zero,Option.some.injEq] at hq;subst hq;exact hst))
        clear hL hpa
        go_wp2
        go_end0
        rw [HEn.out]
        exact ⟨rfl,_,HL.out.run,rfl,HL.out.foot,HL.out.kept⟩
end Go.Proofs.YtcfngdnmpogaoaaGreat
namespace Go.Proofs.YtcfngdnmpogaoaaGreat
open Go.RowKit Go.MuLone
set_option maxHeartbeats 1600000
set_option maxRecDepth 20000
structure RunX where
 d:RunD
 r:RunS
def Rof (xs:List RunX):List Nat:=xs.map fun x=>x.d.R
def Apart (x y:RunX):Prop:=∀ k,x.d.foot k->¬ y.d.foot k
theorem Apart.symm {x y:RunX} (h:Apart x y):Apart y x:=fun k h1 h2=>h k h2 h1
structure FlowAt (w:World) (g:Nat) (r:SCells) (gs es:List RunX):Prop where
 sf:SF w g r
 going:Row w 150 1 r.going (runPtrs (Rof gs))
 ended:Row w 150 1 r.ended (runPtrs (Rof es))
 rows:∀ k,r.going.ownBlock=some k->r.ended.ownBlock ≠ some k
 runs:∀ x ∈ gs++es,RunAt w x.d x.r
 disj:(gs++es).Pairwise Apart
def flowFoot (g:Nat) (r:SCells) (gs es:List RunX) (k:Nat):Prop:=k=g\/r.going.ownBlock=some k\/r.ended.ownBlock=some k\/∃ x ∈ gs++es,x.d.foot k
theorem FlowAt.lt {w:World} {g:Nat} {r:SCells} {gs es:List RunX} (h:FlowAt w g r gs es) {k:Nat} (hk:flowFoot g r gs es k):k < w.heap.size:=by
 rcases hk with rfl | hk | hk | ⟨x,hx,hk⟩
 . exact h.sf.lt
 . exact (h.going.blk_lt hk).1
 . exact (h.ended.blk_lt hk).1
 . exact (h.runs x hx).lt hk
theorem FlowAt.congr {w w':World} {g:Nat} {r:SCells} {gs es:List RunX} (h:FlowAt w g r gs es) (hb:∀ k,flowFoot g r gs es k->w'.heap[k]?=w.heap[k]?):FlowAt w' g r gs es:=
 ⟨h.sf.congr (hb g (.inl rfl)),h.going.congr (fun k hk=>hb k (.inr (.inl hk))),h.ended.congr (fun k hk=>hb k (.inr (.inr (.inl hk)))),h.rows,fun x hx=>(h.runs x hx).congr (fun k hk=>hb k (.inr (.inr (.inr ⟨x,hx,hk⟩)))),h.disj⟩
theorem FlowAt.below {w w':World} {g:Nat} {r:SCells} {gs es:List RunX} (h:FlowAt w g r gs es) (hb:Below w.heap.size w w'):FlowAt w' g r gs es:=h.congr (fun k hk=>hb.block k (h.lt hk))
theorem FlowAt.runNe {w:World} {g:Nat} {r:SCells} {gs es:List RunX} (h:FlowAt w g r gs es) {x:RunX} (hx:x ∈ gs++es) {k:Nat} (hk:x.d.foot k):k ≠ g/\r.going.ownBlock ≠ some k/\r.ended.ownBlock ≠ some k:=by
 have hkd:=(h.runs x hx).kinds hk
 refine ⟨hkd.ne (Cb.of h.sf.blk) (by decide),fun e=>hkd.ne (h.going.cb e) (by decide) rfl,fun e=>hkd.ne (h.ended.cb e) (by decide) rfl⟩
theorem FlowAt.gNe {w:World} {g:Nat} {r:SCells} {gs es:List RunX} (h:FlowAt w g r gs es):r.going.ownBlock ≠ some g/\r.ended.ownBlock ≠ some g:=
 ⟨fun e=>(h.going.cb e).ne (Cb.of h.sf.blk) (by decide) rfl,fun e=>(h.ended.cb e).ne (Cb.of h.sf.blk) (by decide) rfl⟩
theorem FlowAt.turn {w w':World} {g:Nat} {r r':SCells} {gs es:List RunX} (h:FlowAt w g r gs es) (hk:Kept (fun k=>k=g) w w') (hs:SF w' g r') (h1:r'.going=r.going) (h2:r'.ended=r.ended):FlowAt w' g r' gs es:=by
 have hne:=h.gNe
 refine ⟨hs,?_,?_,by rw [h1,h2];exact h.rows,fun x hx=>(h.runs x hx).kept hk (fun k hf=>(h.runNe hx hf).1),h.disj⟩
 . rw [h1];exact h.going.kept hk (fun k hf e=>hne.1 (by rw [<- e];exact hf))
 . rw [h2];exact h.ended.kept hk (fun k hf e=>hne.2 (by rw [<- e];exact hf))
theorem Rof_nodup {xs:List RunX} (hd:xs.Pairwise Apart):(Rof xs).Nodup:=by
 unfold Rof
 rw [List.nodup_iff_pairwise_ne,List.pairwise_map]
 exact hd.imp (fun {x y} h e=>h x.d.R (.inl rfl) (.inl e))
def pastRun (size lt:Int) (r:RunS):Bool:=match r.ps.getLast? with
 | some p=>decide (p.last+size<=lt)
 | none=>false
theorem ended_run (g B:Nat) (r:SCells) (d:RunD) (rs:RunS) (w:World) (hs:SF w g r) (h:RunAt w d rs) (hB:w.cell? ⟨B,0,none⟩=some (.pointer (some ⟨g,0,none⟩))) (hne:rs.ps ≠ []) (hn:rs.ps.length<=1000000000000)
 (hw:∀ p ∈ rs.ps,IntKind.i64.wrap (p.last+r.size)=p.last+r.size) :
 Calls Tryz.prog 142 #[.pointer (some ⟨d.R,0,none⟩),.pointer (some ⟨B,0,none⟩)] w fun e w'=>e=.returned (.bool (pastRun r.size r.lt rs))/\∃ m,w'=w.drewN m:=by
 obtain ⟨n,hnl⟩:∃ n,rs.ps.length=n+1:=⟨rs.ps.length - 1,by have:=List.length_pos_iff.2 hne;omega⟩
 have hp:rs.ps[n]?=some rs.ps[n]:=List.getElem?_eq_getElem (by omega)
 have hlast:rs.ps.getLast?=some rs.ps[n]:=by rw [List.getLast?_eq_getElem?,show rs.ps.length - 1=n from by omega];exact hp
 obtain ⟨⟨P,M⟩,hPM⟩:∃ x,d.Ps[n]?=some x:=⟨d.Ps[n]'(by rw [h.len];omega),List.getElem?_eq_getElem (by rw [h.len];omega)⟩
 obtain ⟨-,c1,-,-,-,-,-,-⟩:=paneAt (h.each n P M _ hPM hp).pane
 have hwp:=hw rs.ps[n] (by simp)
 unfold pastRun
 rw [hlast]
 simp only
 generalize rs.ps[n].last=last at *
 obtain ⟨-,r1,-,-,-,-⟩:=runAt h.run
 obtain ⟨pg,po,pn,pc,hpv,hpn,-⟩:=h.panes.shape (by intro e;have:=congrArg List.length e;simp [h.len] at this;exact hne this)
 have hpn1:pn=n+1:=by simp [h.len,hnl] at hpn;omega
 subst hpn1
 have p0:w.cell? ⟨pg,po+n,none⟩=some (.pointer (some ⟨P,0,none⟩)):=by
  have:=h.panes;rw [hpv] at this
  have:=this.cell n (by omega)
  rw [List.getElem?_map,hPM] at this;simpa using this
 rw [hpv] at r1
 have hq:=fun m=>isFinished_any g r last (w.drewN m) (hs.congr (by simp)) hwp
 have hwn:IntKind.i64.wrap (((n+1:Nat):Int) - 1)=(n:Int):=by rw [IntKind.wrap_i64];omega
 have hwn2:IntKind.i64.wrap ((n:Int)+1 - 1)=(n:Int):=by rw [IntKind.wrap_i64];omega
 have hnn:(n:Int) < ((n+1:Nat):Int):=by omega
 have hnn2:(n:Int) < (n:Int)+1:=by omega
 clear h hs hw hwp hp hlast hPM hpv hpn hne
 go_enter Tryz.func142,Tryz.ntmps142
 go_wp2_with fail
 go_quiet ((go_at_call 101;exact Calls.quiet_of (hq _)))
 go_wp2
 go_ret
 exact ⟨rfl,nq,rfl⟩
end Go.Proofs.YtcfngdnmpogaoaaGreat
namespace Go.Proofs.YtcfngdnmpogaoaaGreat
open Go.RowKit Go.MuLone
set_option maxHeartbeats 6400000
set_option maxRecDepth 20000
theorem PartsNew.parts {w:World} {b:Nat} (h:PartsNew w b):PartsAt w b (.slice none 0 0) (.slice none 0 0) []:=
 ⟨by rw [show evsOf []=[] from rfl,cntV_nil,sumV_nil];exact h.tot,h.bnd,⟨[],[],Row.nil _ _ _,Row.nil _ _ _,rfl⟩,fun k hk=>by simp [Value.ownBlock] at hk,⟨0,.map [],by omega,mapMade h.tag,TagsC.empty⟩,h.all⟩
theorem Rof_append' (a b:List RunX):Rof (a++b)=Rof a++Rof b:=by simp [Rof]
theorem runPtrs_append' (a b:List Nat):runPtrs (a++b)=runPtrs a++runPtrs b:=by simp [runPtrs]
def ksOf (gs:List RunX):List RunK:=gs.map fun x=>⟨x.d.R,x.r.key⟩
theorem ksOf_R (gs:List RunX):(ksOf gs).map RunK.R=Rof gs:=by simp [ksOf,Rof]
theorem FlowAt.keys {w:World} {g:Nat} {r:SCells} {gs es:List RunX} (h:FlowAt w g r gs es):RunKs w (ksOf gs):=by
 refine ⟨by rw [ksOf_R];exact Rof_nodup (List.pairwise_append.1 h.disj).1,fun y hy=>?_⟩
 obtain ⟨x,hx,rfl⟩:=List.mem_map.1 hy
 exact (runAt (h.runs x (by simp [hx])).run).1
structure RunIs (w w':World) (g:Nat) (r:SCells) (gs es:List RunX) (key:ByteArray) (gv:Value) (x:RunX) (gs':List RunX):Prop where
 flow:FlowAt w' g (r.setGoing gv) gs' es
 mem:x ∈ gs'
 hkey:x.r.key=key
 how:(gs'=gs/\gv=r.going)\/((∀ y ∈ gs,y.r.key ≠ key)/\gs'=gs++[x]/\x.r=⟨key,[],0,0⟩/\∀ k,x.d.foot k->w.heap.size<=k)
 own:∀ b,gv.ownBlock=some b->r.going.ownBlock=some b\/w.heap.size<=b
 kept:Kept (fun b=>b=g\/r.going.ownBlock=some b) w w'
theorem runOf_any (g:Nat) (r:SCells) (gs es:List RunX) (key:ByteArray) (w:World) (h:FlowAt w g r gs es) (hl:gs.length<=1000000) :
 Calls Tryz.prog 146 #[.pointer (some ⟨g,0,none⟩),.string key] w fun e w'=>∃ gv x gs',e=.returned (.pointer (some ⟨x.d.R,0,none⟩))/\RunIs w w' g r gs es key gv x gs':=by
 obtain ⟨i,hi,hz0,hz1,hz2⟩:=info_parts infoPR
 have hglt:=h.sf.lt
 have HFl:=hid h
 have hP:=placeOf_any g r (ksOf gs) key w h.sf (by rw [ksOf_R];exact h.going) h.keys (by simp [ksOf];omega)
 obtain ⟨ga,gc,hgv,hgc⟩:=h.going.slice
 rw [runPtrs_len,Rof,List.length_map] at hgv hgc
 clear h
 go_enter Tryz.func146,Tryz.ntmps146
 go_wp2_with fail
 refine hP.mono ?_
 rintro e W1 ⟨z,rfl,hz,hb1⟩
 have HF1:=hid (HFl.out.below hb1)
 have HB1:=hid hb1
 have c48:W1.cell? ⟨g,48,none⟩=some r.going:=HF1.out.sf.tailAt 2 rfl
 rw [hgv] at c48
 clear hb1 hP
 rcases hz with ⟨k,rfl,y,hy,hyk⟩ | ⟨rfl,hall⟩
 . rw [ksOf,List.getElem?_map] at hy
   cases hx:gs[k]? with
   | none=>rw [hx] at hy;simp at hy
   | some x=>
     rw [hx] at hy
     simp only [Option.map_some,Option.some.injEq] at hy
     subst hy
     have hkl:k < gs.length:=(List.getElem?_eq_some_iff.1 hx).1
     obtain ⟨gg,go,gn,gc',hv,-,-⟩:=HFl.out.going.shape (by rw [runPtrs];intro e;have:=congrArg List.length e;simp [Rof] at this;rw [this] at hkl;simp at hkl)
     rw [hgv] at hv
     simp only [Value.slice.injEq] at hv
     obtain ⟨rfl,rfl,rfl⟩:=hv
     have g0:W1.cell? ⟨gg,go+k,none⟩=some (.pointer (some ⟨x.d.R,0,none⟩)):=by
      have:=HF1.out.going;rw [hgv] at this
      have:=this.cell k (by omega)
      rw [runPtrs,Rof,List.getElem?_map,List.getElem?_map,hx] at this;simpa using this
     have HX:Hid (gs[k]?=some x/\x.r.key=key):=⟨hx,hyk⟩
     clear hx hyk
     have hkn:(k:Int) < (gs.length:Int):=by omega
     have hk0:¬ ((k:Int) < 0):=by omega
     go_wp2
     go_ret
     refine ⟨r.going,x,gs,rfl,⟨HF1.out,List.mem_of_getElem? HX.out.1,HX.out.2,.inl ⟨rfl,rfl⟩,fun b hb=>.inl hb,Kept.ofBelow HB1.out _⟩⟩
 . have HALL:Hid (∀ y ∈ gs,y.r.key ≠ key):=fun y hy=>hall ⟨y.d.R,y.r.key⟩ (List.mem_map_of_mem hy)
   clear hall
   have fz:∀ j,W1.frozen? ⟨g,j,none⟩=false:=HF1.out.sf.frozen
   have hglt1:=HF1.out.sf.lt
   have hgne:=HF1.out.gNe
   go_upto_region 4 with fail
   go_cut [26] from 16 to 28 (fun _ wx=>∃ (R b:Nat) (gv:Value),W1.heap.size<=R/\W1.heap.size<=b/\SF wx g (r.setGoing gv)/\PartsNew wx b /\
    wx.heap[R]?=some (.cells (runCells key (.slice none 0 0) 0 0 (.slice (some ⟨b+3,0,none⟩) 3 3)) 178 (0,0))/\Row wx 150 1 gv (runPtrs (Rof gs)++[.pointer (some ⟨R,0,none⟩)])/\(∀ k,gv.ownBlock=some k->r.going.ownBlock=some k\/W1.heap.size<=k)/\Kept (fun k=>k=g\/r.going.ownBlock=some k) W1 wx)
   case first=>
    have hrA:Hid (∀ W:World,Below W1.heap.size W1 W->Row W 150 1 (.slice ga gs.length gc) (runPtrs (Rof gs))):=fun W hb=>by rw [<- hgv];exact HF1.out.going.below hb (fun k hk=>(HF1.out.going.blk_lt hk).1)
    have hll:(runPtrs (Rof gs)).length<=1000000:=by rw [runPtrs_len,Rof,List.length_map];exact hl
    have hgne1:(Value.slice ga gs.length gc).ownBlock ≠ some g:=by rw [<- hgv];exact hgne.1
    have hgblk:∀ k,(Value.slice ga gs.length gc).ownBlock=some k->k < W1.heap.size:=fun k hk=>by rw [<- hgv] at hk;exact (HF1.out.going.blk_lt hk).1
    go_region_law (first
     | (refine step_call0 rfl 163 _ rfl enterParts _ (newParts_any _) ?_;rintro e w1 ⟨rfl,hparts,hb1⟩;refine ⟨_,rfl,?_⟩;have hb1':Below W1.heap.size W1 w1:=(((Below.refl W1.heap.size W1).drew)).trans (hb1.mono (Nat.le_refl _));have d48:w1.cell? ⟨g,48,none⟩=some (.slice ga gs.length gc):=(hb1'.cell (p:=⟨g,48,none⟩) hglt1).trans c48;have df:∀ j,w1.frozen? ⟨g,j,none⟩=false:=fun j=>((bcell hb1').2 g j hglt1).trans (fz j);have hgw1:g < w1.heap.size:=Nat.lt_of_lt_of_le hglt1 hb1'.size)
     | (refine step_append rfl _ _ _ _ rfl 150 i (.pointer none) 1 8 Tryz.underlying108 hi hz0 hz1 hz2 rfl Nat.one_pos (.slice ga gs.length gc) (runPtrs (Rof gs)) rfl (hrA.out _ (hb1'.trans ((((Below.refl W1.heap.size w1).alloc hb1'.size _).alloc (by have:=hb1'.size;simp;omega) _)))) (.slice (some ⟨w1.heap.size+1,0,none⟩) 1 1) 1 [.pointer (some ⟨w1.heap.size,0,none⟩)] rfl ?_ Nat.one_pos ?_ ?_ ?_;exact Src.ofSlice _ Tryz.underlying108 ⟨w1.heap.size+1,0,none⟩ 1 1 _ rfl (fun j u hu=>by cases j with | zero=>(simp only [List.getElem?_cons_zero,Option.some.injEq] at hu;subst hu;exact blkCell (two_new w1 _ _).2 rfl) | succ j=>simp at hu) (by simp [Value.oneCell']);(simp only [maxLen];omega);omega;intro gv w2 ha;have kA:Kept (fun b=>(Value.slice ga gs.length gc).ownBlock=some b) w1 w2:=((((Kept.refl _ w1).alloc _).alloc _).step (Kept.ofGrown ha.grown) (fun _ _ h=>h));have hgvo:∀ b,gv.ownBlock=some b->(Value.slice ga gs.length gc).ownBlock=some b\/w1.heap.size<=b:=(fun b hb=>by rcases ha.step with ⟨h1,_⟩ | ⟨h1,_⟩;(left;rw [<- h1];exact hb);(right;rw [h1] at hb;simp only [Option.some.injEq] at hb;simp at hb;omega));have hrow:=ha.row;obtain ⟨vg,vo,vn,vc,hgs,-,-⟩:=hrow.shape (by simp);subst hgs;have hg2:w2.heap[g]?=w1.heap[g]?:=kA.block g hgw1 hgne1;have e48:w2.cell? ⟨g,48,none⟩=some (.slice ga gs.length gc):=(by rw [<- d48];simp only [World.cell?,hg2]);have ef:∀ j,w2.frozen? ⟨g,j,none⟩=false:=fun j=>(by rw [<- df j];simp only [World.frozen?,hg2])))
    all_goals
     go_wp2
     go_meet
     have hw1:W1.heap.size<=w1.heap.size:=hb1'.size
     have hbs:W1.drew.heap.size=W1.heap.size:=rfl
     rw [hbs] at hparts
     have hb3:=blkLt hparts.all
     have hpp:PartsNew w2 W1.heap.size:=hparts.congr (fun k h1 h2=>kA.block k (by omega) (fun e=>by have:=hgblk k e;omega))
     have hrr:w2.heap[w1.heap.size]?=some (.cells (runCells key (.slice none 0 0) 0 0 (.slice (some ⟨W1.heap.size+3,0,none⟩) 3 3)) 178 (0,0)):=(ha.grown.block _ (by simp;omega) (fun e=>by have:=hgblk _ e.symm;omega)).trans (two_new w1 _ _).1
     have hsf2:SF w2 g r:=(HF1.out.sf.below hb1' hglt1).congr hg2
     refine ⟨w1.heap.size,W1.heap.size,.slice (some ⟨vg,vo,none⟩) vn vc,hw1,Nat.le_refl _,hsf2.putGoing _,hpp.congr (fun k h1 h2=>heap_setCell_other _ _ _ _ (show k ≠ g by omega)),blkOther hrr g 48 _ (by omega),hrow.setCell ⟨g,48,none⟩ _ (fun e=>?_),fun k hk=>?_,?_⟩
     . rcases hgvo g e with h1 | h1
       . exact hgne1 h1
       . omega
     . rcases hgvo k hk with h1 | h1
       . exact .inl (by rw [hgv];exact h1)
       . exact .inr (by omega)
     . refine Kept.setCell ?_ ⟨g,_,none⟩ _ (fun _=>.inl rfl)
       exact (Kept.ofBelow hb1' _).step kA (fun b _ h=>.inr (by rw [hgv];exact h))
   case rest=>
    obtain ⟨R,b,gv,h1,h2,h3,h4,h5,h6,h7,h8⟩:=hcut
    have HH:Hid (W1.heap.size<=R/\W1.heap.size<=b/\SF wc g (r.setGoing gv)/\PartsNew wc b /\
     wc.heap[R]?=some (.cells (runCells key (.slice none 0 0) 0 0 (.slice (some ⟨b+3,0,none⟩) 3 3)) 178 (0,0))/\Row wc 150 1 gv (runPtrs (Rof gs)++[.pointer (some ⟨R,0,none⟩)])/\(∀ k,gv.ownBlock=some k->r.going.ownBlock=some k\/W1.heap.size<=k)/\Kept (fun k=>k=g\/r.going.ownBlock=some k) W1 wc):=⟨h1,h2,h3,h4,h5,h6,h7,h8⟩
    have q48:wc.cell? ⟨g,48,none⟩=some gv:=h3.tailAt 2 rfl
    obtain ⟨pg,po,pn,pc,hpv,hpn,-⟩:=h6.shape (by simp)
    subst hpv
    have hpn1:pn=gs.length+1:=by simp [runPtrs,Rof] at hpn;omega
    subst hpn1
    have p0:wc.cell? ⟨pg,po+gs.length,none⟩=some (.pointer (some ⟨R,0,none⟩)):=by
     have:=h6.cell gs.length (by omega)
     rw [List.getElem?_append_right (by simp [runPtrs,Rof])] at this
     simpa [runPtrs,Rof] using this
    have hkn:(gs.length:Int) < ((gs.length+1:Nat):Int):=by omega
    have hkn2:(gs.length:Int) < (gs.length:Int)+1:=by omega
    clear h1 h2 h3 h4 h5 h6 h7 h8 c48 fz hpn
    go_wp2
    go_ret
    obtain ⟨h1,h2,h3,h4,h5,h6,h7,h8⟩:=HH.out
    have hz1:=HB1.out.size
    have hfoot:∀ k,(⟨R,.slice none 0 0,[],b,.slice none 0 0,.slice none 0 0⟩:RunD).foot k->W1.heap.size<=k:=by
     rintro k (hk | hk | ⟨q,hq,_⟩ | hk)
     . simp only at hk;omega
     . simp [Value.ownBlock] at hk
     . simp at hq
     . rcases hk with ⟨k1,_⟩ | hk | hk
       . simp only at k1;omega
       . simp [Value.ownBlock] at hk
       . simp [Value.ownBlock] at hk
    have hne1:=HF1.out.gNe
    refine ⟨_,⟨⟨R,.slice none 0 0,[],b,.slice none 0 0,.slice none 0 0⟩,⟨key,[],0,0⟩⟩,gs++[⟨⟨R,.slice none 0 0,[],b,.slice none 0 0,.slice none 0 0⟩,⟨key,[],0,0⟩⟩],rfl,⟨⟨h3,?_,?_,?_,?_,?_⟩,by simp,rfl,.inr ⟨HALL.out,rfl,rfl,fun k hk=>by have:=hfoot k hk;omega⟩,fun k hk=>?_,(Kept.ofBelow HB1.out _).trans h8⟩⟩
    . rw [Rof_append',runPtrs_append']
      exact h6
    . show Row wc _ 1 r.ended _
      refine HF1.out.ended.kept h8 (fun k hk hh=>?_)
      rcases hh with e | e
      . subst e;exact hne1.2 hk
      . exact HF1.out.rows k e hk
    . intro k hk he
      rcases h7 k hk with e | e
      . exact HF1.out.rows k e he
      . have:=(HF1.out.ended.blk_lt he).1;omega
    . intro x hx
      have hx':x ∈ gs++es\/x=⟨⟨R,.slice none 0 0,[],b,.slice none 0 0,.slice none 0 0⟩,⟨key,[],0,0⟩⟩:=by
       simp only [List.mem_append,List.mem_singleton] at hx ⊢
       rcases hx with (hx | hx) | hx
       . exact .inl (.inl hx)
       . exact .inr hx
       . exact .inl (.inr hx)
      rcases hx' with hx | rfl
      . refine (HF1.out.runs x hx).kept h8 (fun k hk hh=>?_)
        have:=HF1.out.runNe hx hk
        rcases hh with e | e
        . exact this.1 e
        . exact this.2.1 e
      . exact ⟨h5,Row.nil _ _ _,rfl,fun i P M p h=>by simp at h,List.nodup_nil,List.nodup_nil,fun p hp=>by simp at hp,Nat.le_refl _,h4.parts⟩
    . have hap:∀ x ∈ gs++es,Apart x ⟨⟨R,.slice none 0 0,[],b,.slice none 0 0,.slice none 0 0⟩,⟨key,[],0,0⟩⟩:=fun x hx k hk hk2=>by
       have:=(HF1.out.runs x hx).lt hk
       have:=hfoot k hk2
       omega
      have hd:=HF1.out.disj
      rw [List.append_assoc,List.pairwise_append] at *
      obtain ⟨d1,d2,d3⟩:=hd
      refine ⟨d1,?_,?_⟩
      . rw [List.singleton_append,List.pairwise_cons]
        exact ⟨fun y hy=>(hap y (by simp [hy])).symm,d2⟩
      . intro x hx y hy
        rcases List.mem_cons.1 hy with rfl | hy
        . exact hap x (by simp [hx])
        . exact d3 x hx y hy
    . rcases h7 k hk with e | e
      . exact .inl e
      . exact .inr (by omega)
end Go.Proofs.YtcfngdnmpogaoaaGreat
