import Derived.Test.YtcfngdnmpogaoaaGreatTkT13
import Derived.BigQuiet
import Derived.Test.YtcfngdnmpogaoaaGreatTkT02
namespace Go.Proofs.YtcfngdnmpogaoaaGreat
open Go.RowKit Go.MuLone
variable {cap g n off:Nat} {e:TypeId} {w:World} {xs:List Value}
theorem enterTLA:∀ (vs:Array Value) (w:World),(callFunc 208 vs).run Tryz.prog w=.ok (.enter 208 vs) w:=enters_of Tryz.func208 (by kernel_rfl) rfl
theorem enterBLA:∀ (vs:Array Value) (w:World),(callFunc 210 vs).run Tryz.prog w=.ok (.enter 210 vs) w:=enters_of Tryz.func210 (by kernel_rfl) rfl
theorem enterGLA:∀ (vs:Array Value) (w:World),(callFunc 214 vs).run Tryz.prog w=.ok (.enter 214 vs) w:=enters_of Tryz.func214 (by kernel_rfl) rfl
def leaveM (r:RunS) (start:Int):Nat:=((r.ps.take r.inside).takeWhile (fun p=>decide (p.last < start))).length
def leaveS (r:RunS) (start:Int):RunS:=⟨r.key,r.ps.drop (leaveM r start),r.inside - leaveM r start,r.next⟩
theorem leaveS_step {key:ByteArray} {p:Pane} {ps:List Pane} {next start:Int} (h:p.last < start):leaveS ⟨key,p :: ps,n+1,next⟩ start=leaveS ⟨key,ps,n,next⟩ start:=by
 unfold leaveS leaveM
 simp only [List.take_succ_cons,List.takeWhile_cons,h,decide_true,if_true,List.length_cons,List.drop_succ_cons,Nat.add_sub_add_right]
theorem leaveS_stop {r:RunS} {start:Int} (h:0 < r.inside->∀ p,r.ps[0]?=some p->¬ p.last < start):leaveS r start=r:=by
 have hm:leaveM r start=0:=by
  unfold leaveM
  obtain ⟨key,ps,n,next⟩:=r
  cases n with
  | zero=>simp
  | succ n=>
    cases ps with
    | nil=>simp
    | cons p ps=>
      have:=h (by simp) p rfl
      simp [this]
 unfold leaveS
 rw [hm];rfl
theorem rowTail {x:Value} (h:Row w e 1 (.slice (some ⟨g,off,none⟩) (n+1) cap) (x :: xs)):Row w e 1 (.slice (some ⟨g,off+1,none⟩) n (cap - 1)) xs/\n+1<=cap:=by
 rcases h with ⟨h1,_⟩ | ⟨ge,o,k,c,cur,h1,hg,h3,h4,h5,h6,h7⟩
 . cases h1
 . cases h1
   simp only [Nat.mul_one,List.length_cons] at h5 h6 h7
   refine ⟨.inr ⟨g,off+1,n,cap - 1,cur,rfl,hg,by omega,by omega,by simp only [Nat.mul_one];omega,by simp only [Nat.mul_one];omega,fun j hj=>?_⟩,h3⟩
   have:=h7 (j+1) (by simp only [Nat.mul_one] at hj;omega)
   rw [List.getElem?_cons_succ] at this
   rw [<- this,Nat.add_assoc,Nat.add_comm 1 j]
theorem rowAhead {i:Nat} {u:Value} (h:Row w e 1 (.slice (some ⟨g,off,none⟩) n cap) xs) (hi:i < off):Row (w.setCell ⟨g,i,none⟩ u) e 1 (.slice (some ⟨g,off,none⟩) n cap) xs:=by
 rcases h with ⟨h1,_⟩ | ⟨ge,o,k,c,cur,h1,hg,h3,h4,h5,h6,h7⟩
 . cases h1
 . cases h1
   refine .inr ⟨g,off,n,cap,_,rfl,heap_setCell_same w g i _ _ u hg,h3,h4,by simpa using h5,h6,fun j hj=>?_⟩
   rw [<- h7 j hj,Array.getElem?_setIfInBounds]
   rw [if_neg (by omega)]
def cutV (g off n cap:Nat):Value:=.slice (if cap=1 then some ⟨g,off,none⟩ else some ⟨g,off+1,none⟩) n (cap - 1)
theorem cutV_own (g off n cap:Nat):(cutV g off n cap).ownBlock=some g:=by
 unfold cutV
 split <;> rfl
theorem rowCut {x u:Value} (h:Row w e 1 (.slice (some ⟨g,off,none⟩) (n+1) cap) (x :: xs)):Row (w.setCell ⟨g,off,none⟩ u) e 1 (cutV g off n cap) xs/\n+1<=cap:=by
 obtain ⟨ht,hc⟩:=rowTail h
 refine ⟨?_,hc⟩
 unfold cutV
 by_cases h1:cap=1
 . subst h1
   have hn:n=0:=by omega
   subst hn
   rcases h with ⟨h2,_⟩ | ⟨ge,o,k,c,cur,h2,hg,h3,h4,h5,h6,h7⟩
   . cases h2
   . cases h2
     have hx:xs=[]:=by
      simp only [List.length_cons,Nat.mul_one] at h6
      exact List.eq_nil_of_length_eq_zero (by omega)
     subst hx
     rw [if_pos rfl]
     refine .inr ⟨g,off,0,0,_,rfl,heap_setCell_same w g off _ _ u hg,Nat.le_refl _,Nat.zero_le _,?_,rfl,fun j hj=>by omega⟩
     simp only [Array.size_setIfInBounds];omega
 . rw [if_neg h1]
   exact rowAhead ht (Nat.lt_succ_self _)
theorem RunMid.shift {d:RunD} {key:ByteArray} {next:Int} {p:Pane} {ps:List Pane} {pg po len pc:Nat} {x:Nat × Nat} {Ps:List (Nat × Nat)} {ins:Nat} (h:RunMid w d ⟨key,p :: ps,ins,next⟩ (n+1) (ps.take n) (ps.take n) (ps.take n)) (hPs:d.Ps=x :: Ps) (hpv:d.pv=.slice (some ⟨pg,po,none⟩) (len+1) pc) :
 RunAt (((w.setCell ⟨pg,po,none⟩ (.pointer none)).setCell ⟨d.R,1,none⟩ (cutV pg po len pc)).setCell ⟨d.R,2,none⟩ (.int .i64 (n:Int))) { d with pv:=cutV pg po len pc,Ps:=Ps } ⟨key,ps,n,next⟩:=by
 have hrow:=h.panes
 rw [hPs,hpv,List.map_cons] at hrow
 obtain ⟨ht,hcap⟩:=rowCut (u:=.pointer none) hrow
 have hpgR:=((hrow.cb (k:=pg) rfl)).ne (Cb.of h.run) (by decide)
 have hR1:(w.setCell ⟨pg,po,none⟩ (.pointer none)).heap[d.R]?=some (.cells (runCells key d.pv ((n+1:Nat):Int) next (.slice (some ⟨d.b+3,0,none⟩) 3 3)) 178 (0,0)):=(heap_setCell_other _ _ _ _ (fun e=>hpgR e.symm)).trans h.run
 have hR2:=blkPut hR1 1 (cutV pg po len pc)
 have hR3:=blkPut hR2 2 (.int .i64 (n:Int))
 have hoth:∀ k,k ≠ d.R->k ≠ pg->(((w.setCell ⟨pg,po,none⟩ (.pointer none)).setCell ⟨d.R,1,none⟩ (cutV pg po len pc)).setCell ⟨d.R,2,none⟩ (.int .i64 (n:Int))).heap[k]?=w.heap[k]?:=fun k h1 h2=>by
  rw [heap_setCell_other _ _ _ _ h1,heap_setCell_other _ _ _ _ h1,heap_setCell_other _ _ _ _ h2]
 have hlen:=h.len
 rw [hPs] at hlen
 simp only [List.length_cons] at hlen
 have hnodP:=h.nodP
 have hnodM:=h.nodM
 rw [hPs,List.map_cons,List.nodup_cons] at hnodP hnodM
 have hins:=h.ins
 simp only [List.length_cons] at hins
 refine ⟨hR3,?_,by show Ps.length=ps.length;omega,fun i P M q h1 h2=>?_,hnodP.2,hnodM.2,fun q hq=>h.tcM q (by rw [hPs];exact List.mem_cons_of_mem _ hq),by show n<=ps.length;omega,(h.parts.congr (fun k hk=>hoth k (fun e=>?_) (fun e=>?_))).at⟩
 . exact (ht.setCell _ _ (by rw [cutV_own];simp;exact hpgR)).setCell _ _ (by rw [cutV_own];simp;exact hpgR)
 . have hpa:=h.each (i+1) P M q (by rw [hPs,List.getElem?_cons_succ];exact h1) (by simp only [List.getElem?_cons_succ];exact h2)
   exact hpa.congr (hoth P ((Cb.of hpa.pane).ne (Cb.of h.run) (by decide)) ((Cb.of hpa.pane).ne (hrow.cb (k:=pg) rfl) (by decide))) (hoth M (fun e=>(Cb.of h.run).neM hpa.tags.mb e.symm) (fun e=>(hrow.cb (k:=pg) rfl).neM hpa.tags.mb e.symm))
 . subst e
   exact h.parts.not (Cb.of h.run) (by decide) (by decide) (by decide) (by decide) hk
 . subst e
   exact h.parts.not (hrow.cb (k:=k) rfl) (by decide) (by decide) (by decide) (by decide) hk
end Go.Proofs.YtcfngdnmpogaoaaGreat
namespace Go.Proofs.YtcfngdnmpogaoaaGreat
open Go.RowKit Go.MuLone
set_option maxHeartbeats 12800000
set_option maxRecDepth 20000
structure LvRun (w wr:World) (F0:Nat->Prop) (R b:Nat) (r:RunS) (start:Int) (pv:Value) (Ps:List (Nat × Nat)) (cv gv:Value) (r1:RunS):Prop where
 run:RunAt wr ⟨R,pv,Ps,b,cv,gv⟩ r1
 foot:∀ k,(⟨R,pv,Ps,b,cv,gv⟩:RunD).foot k->F0 k\/w.heap.size<=k
 kept:Kept F0 w wr
 lv:leaveS r1 start=leaveS r start
 len:r1.ps.length<=r.ps.length
theorem leaveAt_any (d:RunD) (r:RunS) (start:Int) (w:World) (h:RunAt w d r) (hl:r.ps.length<=400000000) :
 Calls Tryz.prog 104 #[.pointer (some ⟨d.R,0,none⟩),.int .i64 start] w fun e w'=>e=.returned (.tuple #[])/\∃ d',RunAt w' d' (leaveS r start)/\d'.R=d.R/\(∀ k,d'.foot k->d.foot k\/w.heap.size<=k)/\Kept d.foot w w':=by
 obtain ⟨R,pv0,Ps0,b,cv0,gv0⟩:=d
 obtain ⟨F0,HF0⟩:∃ F0,Hid ((⟨R,pv0,Ps0,b,cv0,gv0⟩:RunD).foot=F0):=⟨_,rfl⟩
 have HS:Hid (LvRun w w F0 R b r start pv0 Ps0 cv0 gv0 r):=⟨h,fun k hk=>.inl (by rw [<- HF0.out];exact hk),Kept.refl _ w,rfl,Nat.le_refl _⟩
 rw [HF0.out]
 clear h
 go_enter Tryz.func104,Tryz.ntmps104
 go_wp2_with fail
 go_loopw [5] (fun _ wr=>∃ pv Ps cv gv r1,LvRun w wr F0 R b r start pv Ps cv gv r1) (fun _ wr=>insOf R wr)
 case atStart=>exact ⟨_,_,_,_,_,HS.out⟩
 case round=>
  obtain ⟨pv,Ps1,cv,gv,r1,hL⟩:=hrel
  obtain ⟨key,ps1,n,next⟩:=r1
  have HL:Hid (LvRun w wr F0 R b r start pv Ps1 cv gv ⟨key,ps1,n,next⟩):=hL
  obtain ⟨r0,r1,r2,r3,r4,rf⟩:=runAt hL.run.run
  have HIns:Hid (insOf R wr=n):=by show _=_;unfold insOf;rw [r2];simp
  have hins:n<=ps1.length:=hL.run.ins
  have hlen1:ps1.length<=r.ps.length:=hL.len
  cases n with
  | zero=>
    have HEn:Hid (leaveS r start=⟨key,ps1,0,next⟩):=HL.out.lv.symm.trans (leaveS_stop (fun hh=>absurd hh (Nat.lt_irrefl 0)))
    clear hL
    go_wp2
    go_end0
    rw [HEn.out]
    exact ⟨rfl,_,HL.out.run,rfl,HL.out.foot,HL.out.kept⟩
  | succ m=>
    cases ps1 with
    | nil=>simp at hins
    | cons p ps=>
      have hlenP:=hL.run.len
      simp only [List.length_cons] at hlenP hlen1 hins
      obtain ⟨⟨P,M⟩,Ps,rfl⟩:∃ x Ps,Ps1=x :: Ps:=by
       cases Ps1 with
       | nil=>simp at hlenP
       | cons x Ps=>exact ⟨x,Ps,rfl⟩
      have hlenP2:Ps.length=ps.length:=by simpa using hlenP
      obtain ⟨pa,pc,hpv0,-⟩:=hL.run.panes.len (by decide)
      simp only [List.map_cons,List.length_cons,List.length_map,Nat.div_one,hlenP2] at hpv0
      subst hpv0
      obtain ⟨pg,po,rfl⟩:=slice_some hL.run.panes (by omega)
      have hpa:PaneAt wr P M p:=hL.run.each 0 P M p rfl rfl
      obtain ⟨-,c1,-⟩:=paneAt hpa.pane
      have hq:wr.cell? ⟨pg,po,none⟩=some (.pointer (some ⟨P,0,none⟩)):=hL.run.panes.cell 0 (by omega)
      have hm0:(0:Int) < ((m+1:Nat):Int):=by omega
      have hm1:(0:Int) < (m:Int)+1:=by omega
      have hl0:(0:Int) < ((ps.length+1:Nat):Int):=by omega
      have hl1:(0:Int) < (ps.length:Int)+1:=by omega
      clear hlenP hlenP2
      by_cases hst:p.last < start
      . have HPn:Hid (∀ (W:World) (cv1 gv1:Value) {p1 p2 p3:List Pane},RunMid W ⟨R,(.slice (some ⟨pg,po,none⟩) (ps.length+1) pc),(P,M) :: Ps,b,cv1,gv1⟩ ⟨key,p :: ps,m+1,next⟩ (m+1) p1 p2 p3->W.cell? ⟨pg,po,none⟩=some (.pointer (some ⟨P,0,none⟩))):=fun W cv1 gv1 p1 p2 p3 hW=>hW.panes.cell 0 (by show 0 < (ps.length+1)*1;omega)
        have HPa:Hid (∀ (W:World) (cv1 gv1:Value) {p1 p2 p3:List Pane},RunMid W ⟨R,(.slice (some ⟨pg,po,none⟩) (ps.length+1) pc),(P,M) :: Ps,b,cv1,gv1⟩ ⟨key,p :: ps,m+1,next⟩ (m+1) p1 p2 p3->PaneAt W P M p):=fun W cv1 gv1 p1 p2 p3 hW=>hW.each 0 P M p rfl rfl
        have hMb:M ≠ b+2:=hL.run.tcM (P,M) (List.mem_cons_self ..)
        have HW1:Hid (RunMid wr ⟨R,(.slice (some ⟨pg,po,none⟩) (ps.length+1) pc),(P,M) :: Ps,b,cv,gv⟩ ⟨key,p :: ps,m+1,next⟩ (m+1) (p :: ps.take m) (p :: ps.take m) (p :: ps.take m)):=hL.run.mid
        have KW1:Hid (Kept F0 w wr):=hL.kept
        have HPf:Hid (∀ k,partsFoot b cv gv k->F0 k\/w.heap.size<=k):=fun k hk=>hL.foot k (.inr (.inr (.inr hk)))
        have HRf:Hid (F0 R\/w.heap.size<=R):=hL.foot R (.inl rfl)
        have HGf:Hid (F0 pg\/w.heap.size<=pg):=hL.foot pg (.inr (.inl rfl))
        have HTf:Hid (∀ q ∈ Ps,∀ k,k=q.1\/k=q.2->F0 k\/w.heap.size<=k):=fun q hq k hk=>hL.foot k (.inr (.inr (.inl ⟨q,List.mem_cons_of_mem _ hq,hk⟩)))
        have hcap:ps.length+1<=pc:=(rowTail hL.run.panes).2
        clear hL hpa
        have na0:∀ W:World,(nilAhead 396 212 (.pointer (some ⟨b,0,none⟩)) "sill/sill.leave").run Tryz.prog W=.ok (some false) W:=fun _=>by kernel_rfl
        have me0:∀ W:World,(method 396 212 (.pointer (some ⟨b,0,none⟩)) "sill/sill.leave").run Tryz.prog W=.ok (208,(.pointer (some ⟨b,0,none⟩))) W:=fun _=>by kernel_rfl
        have ec0:=enterTLA
        have na1:∀ W:World,(nilAhead 396 215 (.pointer (some ⟨b+1,0,none⟩)) "sill/sill.leave").run Tryz.prog W=.ok (some false) W:=fun _=>by kernel_rfl
        have me1:∀ W:World,(method 396 215 (.pointer (some ⟨b+1,0,none⟩)) "sill/sill.leave").run Tryz.prog W=.ok (210,(.pointer (some ⟨b+1,0,none⟩))) W:=fun _=>by kernel_rfl
        have ec1:=enterBLA
        have na2:∀ W:World,(nilAhead 396 218 (.map (some (b+2))) "sill/sill.leave").run Tryz.prog W=.ok (some false) W:=fun _=>by kernel_rfl
        have me2:∀ W:World,(method 396 218 (.map (some (b+2))) "sill/sill.leave").run Tryz.prog W=.ok (214,(.map (some (b+2)))) W:=fun _=>by kernel_rfl
        have ec2:=enterGLA
        have p0:=blkCell HW1.out.parts.all (i:=0) rfl
        go_wp2_with fail
        refine wp_loop_rounds 4 ?_
        rw [rounds_succ]
        go_upto_region 4 with fail
        clear r0 r1 r2 r3 r4 rf hq c1 p0
        refine wp_region_still_tail 10 (by kernel_rfl) (by kernel_rfl) ?_
        simp only [List.take_succ_cons,List.take_zero,List.drop_succ_cons,List.drop_zero]
        change wpStill Tryz.prog _ wr.drew (fun a'=>wpList Tryz.prog _ _ _ a' wr.drew) _ _
        have HW2:Hid (RunMid wr.drew ⟨R,(.slice (some ⟨pg,po,none⟩) (ps.length+1) pc),(P,M) :: Ps,b,cv,gv⟩ ⟨key,p :: ps,m+1,next⟩ (m+1) (p :: ps.take m) (p :: ps.take m) (p :: ps.take m)):=HW1.out.same rfl
        have KW2:Hid (Kept F0 w wr.drew):=KW1.out.drew
        clear HW1 KW1
        generalize wr.drew=W2 at *
        obtain ⟨r0,r1,r2,r3,r4,rf⟩:=runAt HW2.out.run
        have hq:=HPn.out W2 _ _ HW2.out
        repeat still_step
        refine wpStill_nil ?_
        go_wp2_with fail
        clear r0 r1 r2 r3 r4 rf hq
        refine (mid_leave1 b P M p cv gv _ _ _ W2 HW2.out.parts (HPa.out W2 _ _ HW2.out)).mono ?_
        rintro e W3 ⟨rfl,hm3,hk3⟩
        have HW3:Hid (RunMid W3 ⟨R,(.slice (some ⟨pg,po,none⟩) (ps.length+1) pc),(P,M) :: Ps,b,cv,gv⟩ ⟨key,p :: ps,m+1,next⟩ (m+1) (ps.take m) (p :: ps.take m) (p :: ps.take m)):=HW2.out.turn (hk3.mono (fun k _ e=>.inl (by have e:k=b:=e;show b<=k/\k<=b+3;omega))) hm3
        have KW3:Hid (Kept F0 w W3):=KW2.out.step hk3 (fun k hk e=>by
         rcases HPf.out k (.inl (by have e:k=b:=e;show b<=k/\k<=b+3;omega)) with h5 | h5
         . exact h5
         . omega)
        clear hm3 hk3 HW2 KW2 na0 me0 ec0
        go_wp2_with fail
        have p1:=blkCell HW3.out.parts.all (i:=1) rfl
        obtain ⟨r0,r1,r2,r3,r4,rf⟩:=runAt HW3.out.run
        rw [rounds_succ]
        go_upto_region 4 with fail
        clear r0 r1 r2 r3 r4 rf p1
        refine wp_region_still_tail 10 (by kernel_rfl) (by kernel_rfl) ?_
        simp only [List.take_succ_cons,List.take_zero,List.drop_succ_cons,List.drop_zero]
        change wpStill Tryz.prog _ W3.drew (fun a'=>wpList Tryz.prog _ _ _ a' W3.drew) _ _
        have HW4:Hid (RunMid W3.drew ⟨R,(.slice (some ⟨pg,po,none⟩) (ps.length+1) pc),(P,M) :: Ps,b,cv,gv⟩ ⟨key,p :: ps,m+1,next⟩ (m+1) (ps.take m) (p :: ps.take m) (p :: ps.take m)):=HW3.out.same rfl
        have KW4:Hid (Kept F0 w W3.drew):=KW3.out.drew
        clear HW3 KW3
        generalize W3.drew=W4 at *
        obtain ⟨r0,r1,r2,r3,r4,rf⟩:=runAt HW4.out.run
        have hq:=HPn.out W4 _ _ HW4.out
        repeat still_step
        refine wpStill_nil ?_
        go_wp2_with fail
        clear r0 r1 r2 r3 r4 rf hq
        refine (mid_leave2 b _ p cv gv _ _ _ W4 HW4.out.parts (by rw [List.length_take];omega)).mono ?_
        rintro e W5 ⟨rfl,cv',gv',hm5,hc5,ho5,hk5⟩
        have HW5:Hid (RunMid W5 ⟨R,(.slice (some ⟨pg,po,none⟩) (ps.length+1) pc),(P,M) :: Ps,b,cv',gv'⟩ ⟨key,p :: ps,m+1,next⟩ (m+1) (ps.take m) (ps.take m) (p :: ps.take m)):=HW4.out.turn (hk5.mono (fun k _ e=>by rcases e with e | e;(exact .inl (by have e:k=b+1:=e;show b<=k/\k<=b+3;omega));exact .inr (.inr e))) hm5
        have HPf5:Hid (∀ k,partsFoot b cv' gv' k->F0 k\/w.heap.size<=k):=fun k hk=>by
         rcases hk with e | e | e
         . exact HPf.out k (.inl e)
         . exact HPf.out k (.inr (.inl (by rw [<- hc5];exact e)))
         . rcases ho5 k e with e2 | e2
           . exact HPf.out k (.inr (.inr e2))
           . have:=KW4.out.size;exact .inr (by omega)
        have KW5:Hid (Kept F0 w W5):=KW4.out.step hk5 (fun k hk e=>by
         have h6:partsFoot b cv gv k:=by rcases e with e | e;(exact .inl (by have e:k=b+1:=e;show b<=k/\k<=b+3;omega));exact .inr (.inr e)
         rcases HPf.out k h6 with h5 | h5
         . exact h5
         . omega)
        clear hm5 hk5 ho5 hc5 HW4 KW4 na1 me1 ec1 HPf
        go_wp2_with fail
        have p2:=blkCell HW5.out.parts.all (i:=2) rfl
        obtain ⟨r0,r1,r2,r3,r4,rf⟩:=runAt HW5.out.run
        rw [rounds_succ]
        go_upto_region 4 with fail
        clear r0 r1 r2 r3 r4 rf p2
        refine wp_region_still_tail 10 (by kernel_rfl) (by kernel_rfl) ?_
        simp only [List.take_succ_cons,List.take_zero,List.drop_succ_cons,List.drop_zero]
        change wpStill Tryz.prog _ W5.drew (fun a'=>wpList Tryz.prog _ _ _ a' W5.drew) _ _
        have HW6:Hid (RunMid W5.drew ⟨R,(.slice (some ⟨pg,po,none⟩) (ps.length+1) pc),(P,M) :: Ps,b,cv',gv'⟩ ⟨key,p :: ps,m+1,next⟩ (m+1) (ps.take m) (ps.take m) (p :: ps.take m)):=HW5.out.same rfl
        have KW6:Hid (Kept F0 w W5.drew):=KW5.out.drew
        clear HW5 KW5
        generalize W5.drew=W6 at *
        obtain ⟨r0,r1,r2,r3,r4,rf⟩:=runAt HW6.out.run
        have hq:=HPn.out W6 _ _ HW6.out
        repeat still_step
        refine wpStill_nil ?_
        go_wp2_with fail
        clear r0 r1 r2 r3 r4 rf hq
        refine (mid_leave3 b P M p cv' gv' _ _ _ W6 HW6.out.parts (HPa.out W6 _ _ HW6.out) hMb (by rw [List.length_take];omega)).mono ?_
        rintro e W7 ⟨rfl,hm7,hk7⟩
        have HW7:Hid (RunMid W7 ⟨R,(.slice (some ⟨pg,po,none⟩) (ps.length+1) pc),(P,M) :: Ps,b,cv',gv'⟩ ⟨key,p :: ps,m+1,next⟩ (m+1) (ps.take m) (ps.take m) (ps.take m)):=HW6.out.turn (hk7.mono (fun k _ e=>.inl (by have e:k=b+2:=e;show b<=k/\k<=b+3;omega))) hm7
        have KW7:Hid (Kept F0 w W7):=KW6.out.step hk7 (fun k hk e=>by
         rcases HPf5.out k (.inl (by have e:k=b+2:=e;show b<=k/\k<=b+3;omega)) with h5 | h5
         . exact h5
         . omega)
        clear hm7 hk7 HW6 KW6 na2 me2 ec2
        go_wp2_with fail
        rw [rounds_succ]
        obtain ⟨r0,r1,r2,r3,r4,rf⟩:=runAt HW7.out.run
        have hq:=HPn.out W7 _ _ HW7.out
        have fq:W7.frozen? ⟨pg,po,none⟩=false:=HW7.out.panes.frozen po
        have hpgR:pg ≠ R:=((HW7.out.panes.cb (k:=pg) rfl)).ne (Cb.of HW7.out.run) (by decide)
        have hRpg:R ≠ pg:=Ne.symm hpgR
        have hc1:(1:Int)<=((ps.length+1:Nat):Int):=by omega
        have hc2:(1:Int)<=(ps.length:Int)+1:=by omega
        have hc3:(ps.length+1:Nat)<=pc:=hcap
        have hwm:wrap64 (m:Int)=(m:Int):=by unfold wrap64;omega
        have hwm2:IntKind.i64.wrap ((m:Int)+1 - 1)=(m:Int):=by rw [IntKind.wrap_i64];omega
        go_wp2_with fail
        have HW8:Hid (RunAt (((W7.setCell ⟨pg,po,none⟩ (.pointer none)).setCell ⟨R,1,none⟩ (cutV pg po ps.length pc)).setCell ⟨R,2,none⟩ (.int .i64 (m:Int))) ⟨R,cutV pg po ps.length pc,Ps,b,cv',gv'⟩ ⟨key,ps,m,next⟩):=HW7.out.shift rfl rfl
        have KW8:Hid (Kept F0 w (((W7.setCell ⟨pg,po,none⟩ (.pointer none)).setCell ⟨R,1,none⟩ (cutV pg po ps.length pc)).setCell ⟨R,2,none⟩ (.int .i64 (m:Int)))):=by
         refine Kept.setCell (Kept.setCell (Kept.setCell KW7.out ⟨pg,po,none⟩ _ (fun hh=>?_)) ⟨R,1,none⟩ _ (fun hh=>?_)) ⟨R,2,none⟩ _ (fun hh=>?_)
         . rcases HGf.out with h5 | h5
           . exact h5
           . simp only at hh;omega
         . rcases HRf.out with h5 | h5
           . exact h5
           . simp only at hh;omega
         . rcases HRf.out with h5 | h5
           . exact h5
           . simp only at hh;omega
        have HN:Hid (LvRun w (((W7.setCell ⟨pg,po,none⟩ (.pointer none)).setCell ⟨R,1,none⟩ (cutV pg po ps.length pc)).setCell ⟨R,2,none⟩ (.int .i64 (m:Int))) F0 R b r start (cutV pg po ps.length pc) Ps cv' gv' ⟨key,ps,m,next⟩):=by
         refine ⟨HW8.out,fun k hk=>?_,KW8.out,(leaveS_step hst).symm.trans HL.out.lv,by show ps.length<=r.ps.length;omega⟩
         rcases hk with hk | hk | ⟨q,hq,hk⟩ | hk
         . rw [hk];exact HRf.out
         . have hk2:(cutV pg po ps.length pc).ownBlock=some k:=hk
           rw [cutV_own] at hk2
           simp only [Option.some.injEq] at hk2
           rw [<- hk2];exact HGf.out
         . exact HTf.out q hq k hk
         . exact HPf5.out k hk
        have HI8:Hid (insOf R (((W7.setCell ⟨pg,po,none⟩ (.pointer none)).setCell ⟨R,1,none⟩ (cutV pg po ps.length pc)).setCell ⟨R,2,none⟩ (.int .i64 (m:Int)))=m):=by
         show _=_
         obtain ⟨-,-,s2,-⟩:=runAt HW8.out.run
         unfold insOf;rw [s2];simp
        refine ⟨⟨cutV pg po ps.length pc,Ps,cv',gv',⟨key,ps,m,next⟩,HN.out⟩,?_⟩
        rw [HIns.out]
        have:=HI8.out
        unfold cutV at this
        rw [this];omega
      . have HEn:Hid (leaveS r start=⟨key,p :: ps,m+1,next⟩):=HL.out.lv.symm.trans (leaveS_stop (fun _ q hq=>by simp only [List.getElem?_cons_zero,Option.some.injEq] at hq;subst hq;exact hst))
        clear hL hpa
        go_wp2
        go_end0
        rw [HEn.out]
        exact ⟨rfl,_,HL.out.run,rfl,HL.out.foot,HL.out.kept⟩
end Go.Proofs.YtcfngdnmpogaoaaGreat
namespace Go.Proofs.YtcfngdnmpogaoaaGreat
open Go.RowKit
variable {g:Nat} {r:RCells} {w:World}
structure RF (w:World) (g:Nat) (r:RCells):Prop where
 blk:w.heap[g]?=some (.cells r.cells.toArray 140)
 len:r.src.length=8
theorem RF.cell (h:RF w g r) {i:Nat} {v:Value} (hi:r.cells[i]?=some v):w.cell? ⟨g,i,none⟩=some v:=by
 simp [World.cell?,h.blk,hi]
theorem RF.frozen (h:RF w g r) (i:Nat):w.frozen? ⟨g,i,none⟩=false:=by
 simp [World.frozen?,h.blk]
theorem flat5 (l:List RSrc) (j k:Nat) (s:RSrc) (hs:l[j]?=some s) (hk:k < 5):(l.flatMap RSrc.cells)[j*5+k]?=s.cells[k]?:=by
 induction l generalizing j with
 | nil=>simp at hs
 | cons a l ih=>
   have ha:a.cells.length=5:=rfl
   cases j with
   | zero=>
     simp at hs
     subst hs
     rw [List.flatMap_cons,List.getElem?_append_left (by omega)]
     simp
   | succ j=>
     simp at hs
     rw [List.flatMap_cons,List.getElem?_append_right (by omega),<- ih j hs]
     congr 1
     omega
theorem flat5_length (l:List RSrc):(l.flatMap RSrc.cells).length=5*l.length:=by
 induction l with
 | nil=>rfl
 | cons a l ih=>rw [List.flatMap_cons,List.length_append,ih];simp [RSrc.cells];omega
theorem RCells.srcAt (r:RCells) (j k:Nat) (s:RSrc) (hs:r.src[j]?=some s) (hk:k < 5):r.cells[4+j*5+k]?=s.cells[k]?:=by
 have hj:j < r.src.length:=(List.getElem?_eq_some_iff.1 hs).1
 have hl:=flat5_length r.src
 rw [RCells.cells,List.append_assoc,List.append_assoc,List.getElem?_append_right (by simp;omega),List.getElem?_append_left (by rw [hl];simp only [List.length_cons,List.length_nil];omega),<- flat5 r.src j k s hs hk]
 congr 1
 simp only [List.length_cons,List.length_nil];omega
theorem flat5_set (l:List RSrc) (j k:Nat) (s s':RSrc) (v:Value) (hs:l[j]?=some s) (hk:k < 5) (hc:s'.cells=s.cells.set k v):(l.set j s').flatMap RSrc.cells=(l.flatMap RSrc.cells).set (j*5+k) v:=by
 induction l generalizing j with
 | nil=>simp at hs
 | cons a l ih=>
   have ha:a.cells.length=5:=rfl
   cases j with
   | zero=>
     simp at hs
     subst hs
     rw [List.set_cons_zero,List.flatMap_cons,List.flatMap_cons,hc,List.set_append_left _ _ (by omega)]
     simp
   | succ j=>
     simp at hs
     rw [List.set_cons_succ,List.flatMap_cons,List.flatMap_cons,ih j hs,List.set_append_right _ _ (by omega)]
     congr 2
     omega
def RCells.setSrc (r:RCells) (j:Nat) (s:RSrc):RCells:={ r with src:=r.src.set j s }
theorem RCells.setSrc_cells (r:RCells) (j k:Nat) (s s':RSrc) (v:Value) (hs:r.src[j]?=some s) (hk:k < 5) (hc:s'.cells=s.cells.set k v):(r.setSrc j s').cells=r.cells.set (4+j*5+k) v:=by
 have hj:j < r.src.length:=(List.getElem?_eq_some_iff.1 hs).1
 have hl:=flat5_length r.src
 have e:4+j*5+k - 4=j*5+k:=by omega
 simp only [RCells.cells,RCells.setSrc,List.append_assoc]
 rw [flat5_set r.src j k s s' v hs hk hc,List.set_append_right _ _ (by simp only [List.length_cons,List.length_nil];omega),List.set_append_left _ _ (by rw [hl];simp only [List.length_cons,List.length_nil];omega)]
 simp only [List.length_cons,List.length_nil,Nat.zero_add,Nat.reduceAdd,e]
theorem RCells.setSrc_setSrc (r:RCells) (j:Nat) (s s':RSrc):(r.setSrc j s).setSrc j s'=r.setSrc j s':=by
 simp [RCells.setSrc]
theorem RCells.setSrc_at (r:RCells) (j:Nat) (s:RSrc) (hj:j < r.src.length):(r.setSrc j s).src[j]?=some s:=by
 simp [RCells.setSrc,hj]
theorem RF.put {r':RCells} (h:RF w g r) (i:Nat) (v:Value) (hr:r'.cells=r.cells.set i v) (hl:r'.src.length=8):RF (w.setCell ⟨g,i,none⟩ v) g r':=
 ⟨by rw [hr];simp [World.setCell,Array.getElem?_modify,h.blk],hl⟩
theorem RF.putSrc (h:RF w g r) (j k:Nat) (s s':RSrc) (v:Value) (hs:r.src[j]?=some s) (hk:k < 5) (hc:s'.cells=s.cells.set k v):RF (w.setCell ⟨g,4+j*5+k,none⟩ v) g (r.setSrc j s'):=
 h.put _ _ (r.setSrc_cells j k s s' v hs hk hc) (by simp [RCells.setSrc,h.len])
theorem RF.putAll (h:RF w g r) (j:Nat) (s:RSrc) (a b c:Bool) (d:Int) (e:ByteArray) (hs:r.src[j]?=some s) :
 RF (((((w.setCell ⟨g,4+j*5,none⟩ (.bool a)).setCell ⟨g,4+j*5+1,none⟩ (.bool b)).setCell ⟨g,4+j*5+2,none⟩ (.bool c)).setCell ⟨g,4+j*5+3,none⟩ (.int .i64 d)).setCell ⟨g,4+j*5+4,none⟩ (.string e)) g (r.setSrc j ⟨a,b,c,d,e⟩):=by
 have hj:j < r.src.length:=(List.getElem?_eq_some_iff.1 hs).1
 have hj':∀ s,j < (r.setSrc j s).src.length:=fun s=>by simp [RCells.setSrc,hj]
 have h1:=h.putSrc j 0 s ⟨a,s.broken,s.reached,s.reach,s.rest⟩ (.bool a) hs (by omega) rfl
 have h2:=h1.putSrc j 1 _ ⟨a,b,s.reached,s.reach,s.rest⟩ (.bool b) (r.setSrc_at j _ hj) (by omega) rfl
 rw [RCells.setSrc_setSrc] at h2
 have h3:=h2.putSrc j 2 _ ⟨a,b,c,s.reach,s.rest⟩ (.bool c) (r.setSrc_at j _ hj) (by omega) rfl
 rw [RCells.setSrc_setSrc] at h3
 have h4:=h3.putSrc j 3 _ ⟨a,b,c,d,s.rest⟩ (.int .i64 d) (r.setSrc_at j _ hj) (by omega) rfl
 rw [RCells.setSrc_setSrc] at h4
 have h5:=h4.putSrc j 4 _ ⟨a,b,c,d,e⟩ (.string e) (r.setSrc_at j _ hj) (by omega) rfl
 rw [RCells.setSrc_setSrc] at h5
 exact h5
theorem ropen_yes (g n:Nat) (r:RCells) (s:RSrc) (w:World) (h:RF w g r) (hs:r.src[n]?=some s) (ho:s.opened=false) :
 Calls Tryz.prog 55 #[.pointer (some ⟨g,0,none⟩),.int .i64 n] w fun e w'=>e=.returned (.int .i64 0)/\RF w' g (r.setSrc n ⟨true,false,false,0,⟨#[]⟩⟩)/\Kept (fun k=>k=g) w w':=by
 have hn:n < 8:=by have:=(List.getElem?_eq_some_iff.1 hs).1;have:=h.len;omega
 have c0:w.cell? ⟨g,4+n*5,none⟩=some (.bool false):=h.cell (by rw [<- ho];exact r.srcAt n 0 s hs (by omega))
 have c1:w.cell? ⟨g,4+n*5+1,none⟩=some (.bool s.broken):=h.cell (r.srcAt n 1 s hs (by omega))
 have c2:w.cell? ⟨g,4+n*5+2,none⟩=some (.bool s.reached):=h.cell (r.srcAt n 2 s hs (by omega))
 have c3:w.cell? ⟨g,4+n*5+3,none⟩=some (.int .i64 s.reach):=h.cell (r.srcAt n 3 s hs (by omega))
 have c4:w.cell? ⟨g,4+n*5+4,none⟩=some (.string s.rest):=h.cell (r.srcAt n 4 s hs (by omega))
 have fz:∀ j,w.frozen? ⟨g,j,none⟩=false:=h.frozen
 have HR:=h.putAll n s true false false 0 ⟨#[]⟩ hs
 have HH:=hid HR
 clear HR h
 go_enter Tryz.func55,Tryz.ntmps55
 go_wp2_with fail
 go_ret
 refine ⟨rfl,HH.out,?_⟩
 refine Kept.setCell ?_ ⟨g,_,none⟩ _ (fun _=>rfl)
 refine Kept.setCell ?_ ⟨g,_,none⟩ _ (fun _=>rfl)
 refine Kept.setCell ?_ ⟨g,_,none⟩ _ (fun _=>rfl)
 refine Kept.setCell ?_ ⟨g,_,none⟩ _ (fun _=>rfl)
 refine Kept.setCell ?_ ⟨g,_,none⟩ _ (fun _=>rfl)
 exact Kept.refl _ w
theorem ropen_no (g n:Nat) (r:RCells) (s:RSrc) (w:World) (h:RF w g r) (hs:r.src[n]?=some s) (ho:s.opened=true) :
 Calls Tryz.prog 55 #[.pointer (some ⟨g,0,none⟩),.int .i64 n] w fun e w'=>e=.returned (.int .i64 4)/\w'=w:=by
 have hn:n < 8:=by have:=(List.getElem?_eq_some_iff.1 hs).1;have:=h.len;omega
 have c0:w.cell? ⟨g,4+n*5,none⟩=some (.bool true):=h.cell (by rw [<- ho];exact r.srcAt n 0 s hs (by omega))
 clear h
 go_enter Tryz.func55,Tryz.ntmps55
 go_wp2_with fail
 go_ret
 exact ⟨rfl,rfl⟩
theorem ropen_out (g:Nat) (n:Int) (w:World) (hn:¬ (0<=n/\n < 8)) :
 Calls Tryz.prog 55 #[.pointer (some ⟨g,0,none⟩),.int .i64 n] w fun e w'=>e=.returned (.int .i64 3)/\w'=w:=by
 by_cases h0:n < 0
 . have h8:¬ 8<=n:=by omega
   clear hn
   go_enter Tryz.func55,Tryz.ntmps55
   go_wp2_with fail
   go_ret
   exact ⟨rfl,rfl⟩
 . have h8:8<=n:=by omega
   clear hn
   go_enter Tryz.func55,Tryz.ntmps55
   go_wp2_with fail
   go_ret
   exact ⟨rfl,rfl⟩
end Go.Proofs.YtcfngdnmpogaoaaGreat
