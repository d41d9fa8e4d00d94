import Derived.Test.YtcfngdnmpogaoaaGreatTkT27
import Derived.Test.YtcfngdnmpogaoaaGreatTkT33
import Derived.Test.YtcfngdnmpogaoaaGreatTkT25
import Derived.Test.YtcfngdnmpogaoaaGreatTkT28
namespace Go.Proofs.YtcfngdnmpogaoaaGreat
open Go.RowKit
structure Pend (c:Cf) (T:Option Int) (sp:Sp) (ds:List Win):Prop where
 done:DoneOk c.size c.slide T sp.lt sp.li sp.E ds
 told:∀ x,T=some x->sp.li=true/\x<=sp.lt
 li:sp.E ≠ []->sp.li=true\/(leastS sp.src).2=true
 lt:sp.lt<=2305843009213693952
 src:∀ s ∈ sp.src,s.is=true->s.time<=2305843009213693952
theorem least_fold (l:List SrcS):∀ m:Int × Bool,(m.2=true->(l.foldl leastStepS m).2=true)/\((∃ s ∈ l,s.is=true)->(l.foldl leastStepS m).2=true)/\((l.foldl leastStepS m).2=true->(l.foldl leastStepS m=m)\/∃ s ∈ l,s.is=true/\(l.foldl leastStepS m).1=s.time):=by
 induction l with
 | nil=>intro m;exact ⟨fun h=>h,fun ⟨s,hs,_⟩=>(by cases hs),fun _=>.inl rfl⟩
 | cons a l ih=>
   intro m
   simp only [List.foldl_cons]
   obtain ⟨i1,i2,i3⟩:=ih (leastStepS m a)
   refine ⟨fun h=>i1 ?_,fun ⟨s,hs,h⟩=>?_,fun h=>?_⟩
   . unfold leastStepS;split
     . rfl
     . exact h
   . rcases List.mem_cons.1 hs with rfl | hs
     . refine i1 ?_
       unfold leastStepS
       rw [h]
       cases hm:m.2 with
       | true=>
         split
         . rfl
         . exact hm
       | false=>simp
     . exact i2 ⟨s,hs,h⟩
   . rcases i3 h with h1 | ⟨s,hs,h1,h2⟩
     . by_cases hc:(a.is && (!m.2 || decide (a.time < m.1)))=true
       . right
         have e1:leastStepS m a=(a.time,true):=if_pos hc
         rw [h1,e1]
         simp only [Bool.and_eq_true] at hc
         exact ⟨a,by simp,hc.1,rfl⟩
       . left
         have e1:leastStepS m a=m:=if_neg hc
         rw [h1,e1]
     . exact .inr ⟨s,List.mem_cons_of_mem _ hs,h1,h2⟩
theorem least_is {l:List SrcS}:(leastS l).2=true ↔ ∃ s ∈ l,s.is=true:=by
 obtain ⟨-,h2,h3⟩:=least_fold l (0,false)
 refine ⟨fun h=>?_,h2⟩
 rcases h3 h with h4 | ⟨s,hs,h4,-⟩
 . have h:(l.foldl leastStepS (0,false)).2=true:=h
   rw [h4] at h;cases h
 . exact ⟨s,hs,h4⟩
theorem least_of {l:List SrcS} (h:(leastS l).2=true):∃ s ∈ l,s.is=true/\(leastS l).1=s.time:=by
 obtain ⟨-,-,h3⟩:=least_fold l (0,false)
 rcases h3 h with h4 | h4
 . have h:(l.foldl leastStepS (0,false)).2=true:=h
   rw [h4] at h;cases h
 . exact h4
theorem Pend.n {c:Cf} {T:Option Int} {sp:Sp} {ds:List Win} (h:Pend c T sp ds) (m:RCounts):Pend c T { sp with n:=m } ds:=⟨h.done,h.told,h.li,h.lt,h.src⟩
theorem Pend.rest {c:Cf} {T:Option Int} {sp:Sp} {ds:List Win} (h:Pend c T sp ds) (hl:sp.line c=sp) (hE:sp.E ≠ []):sp.li=true:=by
 rcases h.li hE with h1 | h1
 . exact h1
 . have:=congrArg Sp.li hl
   rw [<- this]
   show (lineF c.late sp.src sp.lt sp.li).2=true
   unfold lineF
   rw [if_pos h1]
theorem Pend.moved {c:Cf} {T:Option Int} {sp:Sp} {ds:List Win} (h:Pend c T sp ds) (hc:1<=c.slide) (h0:0<=c.late) (t:Int) (hl:lineF c.late sp.src sp.lt sp.li=(t,true)) (hup:sp.li=true->sp.lt<=t):Pend c T (sp.line c) (ds++finAll c.size c.slide sp.lt t sp.li sp.E sp.E):=by
 have e1:(sp.line c).lt=t:=by show (lineF c.late sp.src sp.lt sp.li).1=t;rw [hl]
 have e2:(sp.line c).li=true:=by show (lineF c.late sp.src sp.lt sp.li).2=true;rw [hl]
 refine ⟨?_,fun x hx=>?_,fun _=>.inl e2,?_,h.src⟩
 . rw [e1,e2]
   exact h.done.move hc hup h.told
 . obtain ⟨h1,h2⟩:=h.told x hx
   rw [e1]
   have:=hup h1
   exact ⟨e2,by omega⟩
 . rw [e1]
   unfold lineF at hl
   split at hl
   . rename_i hs
     have hl1:=congrArg Prod.fst hl
     simp only at hl1
     split at hl1
     . obtain ⟨s,hs1,hs2,hs3⟩:=least_of hs
       have:=h.src s hs1 hs2
       omega
     . have:=h.lt;omega
   . have hl1:=congrArg Prod.fst hl
     simp only at hl1
     have:=h.lt;omega
theorem mem_modify {l:List SrcS} {n:Nat} {f:SrcS->SrcS} {x:SrcS} (h:x ∈ l.modify n f):x ∈ l\/∃ s ∈ l,x=f s:=by
 obtain ⟨i,hi,rfl⟩:=List.mem_iff_getElem.1 h
 rw [List.getElem_modify]
 split
 . exact .inr ⟨_,List.getElem_mem _,rfl⟩
 . exact .inl (List.getElem_mem _)
theorem raised_least {l:List SrcS} {n:Nat} {s:SrcS} (x:Int) (hs:l[n]?=some s):(leastS (l.modify n (raisedS x))).2=true:=by
 refine least_is.2 ⟨raisedS x s,?_,?_⟩
 . exact List.mem_of_getElem? (i:=n) (by rw [List.getElem?_modify,hs];simp)
 . unfold raisedS
   split
   . rfl
   . rename_i h
     cases hi:s.is with
     | true=>rfl
     | false=>exact absurd (.inl hi) h
theorem raised_src {l:List SrcS} {n:Nat} {x:Int} (h:∀ s ∈ l,s.is=true->s.time<=2305843009213693952) (hx:x<=2305843009213693952):∀ s ∈ l.modify n (raisedS x),s.is=true->s.time<=2305843009213693952:=fun s hs hi=>by
 rcases mem_modify hs with hs | ⟨a,ha,rfl⟩
 . exact h s hs hi
 . unfold raisedS at *
   split
   . exact hx
   . rename_i h1
     rw [if_neg h1] at hi
     exact h a ha hi
theorem Pend.raise {c:Cf} {T:Option Int} {sp:Sp} {ds:List Win} (h:Pend c T sp ds) (n:Nat) (s:SrcS) (hs:sp.src[n]?=some s) (x:Int) (hx:x<=2305843009213693952):Pend c T (sp.raise n x) ds:=
 ⟨h.done,h.told,fun _=>.inr (raised_least x hs),h.lt,raised_src h.src hx⟩
theorem Pend.event {c:Cf} {T:Option Int} {sp:Sp} {ds:List Win} (h:Pend c T sp ds) (n:Nat) (s:SrcS) (hs:sp.src[n]?=some s) (e:Ev) (he:e.t<=2305843009213693952) (hlt:(sp.li && decide (e.t < sp.lt))=false) (m:RCounts):Pend c T (({ sp with E:=sp.E++[e],n:=m }:Sp).raise n e.t) ds:=by
 refine ⟨h.done.event e (fun hl=>?_),h.told,fun _=>.inr (raised_least e.t hs),h.lt,raised_src h.src he⟩
 rw [hl] at hlt
 simp only [Bool.true_and,decide_eq_false_iff_not] at hlt
 omega
theorem Pend.opened {c:Cf} {T:Option Int} {sp:Sp} {ds:List Win} (h:Pend c T sp ds) (n:Nat):Pend c T (sp.open n) ds:=by
 refine ⟨h.done,h.told,fun hE=>?_,h.lt,fun s hs hi=>?_⟩
 . rcases h.li hE with h1 | h1
   . exact .inl h1
   . right
     obtain ⟨s,hs,hi⟩:=least_is.1 h1
     obtain ⟨j,hj,rfl⟩:=List.mem_iff_getElem.1 hs
     have hj2:j < (sp.src.modify n fun x=>⟨true,x.broken,x.time,x.is⟩).length:=by rw [List.length_modify];exact hj
     refine least_is.2 ⟨(sp.src.modify n fun x=>⟨true,x.broken,x.time,x.is⟩)[j],List.getElem_mem hj2,?_⟩
     rw [List.getElem_modify]
     split
     . exact hi
     . exact hi
 . rcases mem_modify hs with hs | ⟨a,ha,rfl⟩
   . exact h.src s hs hi
   . exact h.src a ha hi
theorem Pend.out {c:Cf} {T:Option Int} {sp:Sp} {ds:List Win} (h:Pend c T sp ds) (hl:sp.line c=sp) (n:Nat) (x:SrcS) (hx:x.is=false) (m:RCounts):Pend c T { sp with src:=sp.src.modify n (fun _=>x),n:=m } ds:=by
 refine ⟨h.done,h.told,fun hE=>.inl (h.rest hl hE),h.lt,fun s hs hi=>?_⟩
 rcases mem_modify hs with hs | ⟨a,ha,rfl⟩
 . exact h.src s hs hi
 . rw [hx] at hi;cases hi
theorem Pend.new (c:Cf):Pend c none Sp.new []:=by
 refine ⟨DoneOk.void _ _ _ _ _,fun x hx=>(by cases hx),fun hE=>absurd rfl hE,by decide,fun s hs hi=>?_⟩
 have hs:s ∈ List.replicate 8 (⟨false,false,0,false⟩:SrcS):=hs
 rw [List.eq_of_mem_replicate hs] at hi;cases hi
end Go.Proofs.YtcfngdnmpogaoaaGreat
namespace Go.Proofs.YtcfngdnmpogaoaaGreat
open Go.RowKit
variable {E:List Ev} {G X:Nat->Prop} {ds:List WinX} {g:Nat} {r:RCells} {w w':World}
structure CfOk (c:Cf):Prop where
 a1:1<=c.slide
 a2:c.slide<=c.size
 a3:c.size<=1099511627776
 a4:0<=c.late
 a5:c.late<=1099511627776
 a6:c.size<=4096*c.slide
structure RefOn (w:World) (g:Nat) (r:RCells) (E:List Ev) (ds:List WinX) (G:Nat->Prop):Prop where
 rev:REv w g r E
 done:WinsAt w r.done ds 0
 me:G g
 ev:∀ k,r.events.ownBlock=some k->G k
 dn:∀ k,r.done.ownBlock=some k->G k
 tg:∀ x ∈ ds,∀ k,x.tv.ownBlock=some k->G k
theorem REv.kept (h:REv w g r E) (hk:Kept X w w') (hg:¬ X g) (he:∀ k,r.events.ownBlock=some k->¬ X k):REv w' g r E:=⟨h.rf.congr (hk.block g h.rf.lt hg),h.ev.kept hk he⟩
theorem WinsAt.kept {v:Value} {xs:List WinX} {B:Nat} (h:WinsAt w v xs B) (hk:Kept X w w') (hv:∀ k,v.ownBlock=some k->¬ X k) (ht:∀ x ∈ xs,∀ k,x.tv.ownBlock=some k->¬ X k):WinsAt w' v xs B:=
 ⟨h.row.kept hk hv,fun x hx=>⟨(h.tags x hx).1.kept hk (ht x hx),(h.tags x hx).2⟩,h.blk,h.void⟩
theorem RefOn.kept (h:RefOn w g r E ds G) (hk:Kept X w w') (hX:∀ k,G k->¬ X k):RefOn w' g r E ds G:=
 ⟨h.rev.kept hk (hX _ h.me) (fun k hk=>hX k (h.ev k hk)),h.done.kept hk (fun k hk=>hX k (h.dn k hk)) (fun x hx k hk=>hX k (h.tg x hx k hk)),h.me,h.ev,h.dn,h.tg⟩
theorem RefOn.mono {G':Nat->Prop} (h:RefOn w g r E ds G) (hG:∀ k,G k->G' k):RefOn w g r E ds G':=
 ⟨h.rev,h.done,hG _ h.me,fun k hk=>hG k (h.ev k hk),fun k hk=>hG k (h.dn k hk),fun x hx k hk=>hG k (h.tg x hx k hk)⟩
theorem RefOn.turn {W:World} {r':RCells} {E':List Ev} (h:RefOn w g r E ds G) (hr:REv W g r' E') (hd:r'.done=r.done) (hk:Kept (fun k=>k=g\/r.events.ownBlock=some k) w W) (ho:∀ k,r'.events.ownBlock=some k->r.events.ownBlock=some k\/w.heap.size<=k):RefOn W g r' E' ds (Grown G w)/\Kept G w W:=by
 have hdn:∀ k,r.done.ownBlock=some k->¬ (k=g\/r.events.ownBlock=some k):=fun k hkd hh=>by
  rcases hh with rfl | hh
  . exact (h.done.row.cb hkd).ne (Cb.of h.rev.rf.blk) (by decide) rfl
  . exact (h.done.row.cb hkd).ne (h.rev.ev.cb hh) (by decide) rfl
 have htg:∀ x ∈ ds,∀ k,x.tv.ownBlock=some k->¬ (k=g\/r.events.ownBlock=some k):=fun x hx k hkd hh=>by
  rcases hh with rfl | hh
  . exact ((h.done.tags x hx).1.cb hkd).ne (Cb.of h.rev.rf.blk) (by decide) rfl
  . exact ((h.done.tags x hx).1.cb hkd).ne (h.rev.ev.cb hh) (by decide) rfl
 refine ⟨⟨hr,?_,.inl h.me,fun k hk=>?_,fun k hk=>.inl (h.dn k (by rw [<- hd];exact hk)),fun x hx k hk=>.inl (h.tg x hx k hk)⟩,hk.mono (fun k _ hh=>?_)⟩
 . rw [hd];exact h.done.kept hk hdn htg
 . rcases ho k hk with hh | hh
   . exact .inl (h.ev k hh)
   . exact .inr hh
 . rcases hh with rfl | hh
   . exact h.me
   . exact h.ev k hh
def Ref (T:Option Int × Nat) (w:World) (g:Nat) (c:Cf) (sp:Sp) (rs:List (List UInt8)) (G:Nat->Prop):Prop:=∃ r ds,RefOn w g r sp.E ds G/\RefRel c sp rs r (T.2+ds.length)/\sp.line c=sp/\Pend c T.1 sp (ds.map WinX.w)
theorem lines_ref {T:Option Int × Nat} (w:World) (g:Nat) (c:Cf) (sp:Sp) (rs:List (List UInt8)) (G:Nat->Prop) (r:RCells) (ds:List WinX) (hc:CfOk c) (h:RefOn w g r sp.E ds G) (hr:RefRel c sp rs r (T.2+ds.length)) (hP:Pend c T.1 sp (ds.map WinX.w)) (hE:sp.E.length<=200000) :
 Calls Tryz.prog 80 #[.pointer (some ⟨g,0,none⟩)] w fun e w'=>e=.returned (.tuple #[])/\Ref T w' g c (sp.line c) rs (Grown G w)/\Kept G w w':=by
 have hdl:ds.length<=1000000000:=by
  have h1:=hr.done
  have h2:=cntAll_le c.size c.slide sp.lt sp.li sp.E hc.a1 hc.a6
  omega
 refine (lines_any g r sp.E ds w h.rev h.done hE hr.ok hdl (by rw [hr.slide];exact hc.a1) (by rw [hr.slide,hr.size];exact hc.a2) (by rw [hr.size];exact hc.a3) (by rw [hr.slide,hr.size];exact hc.a6)).mono ?_
 rintro e w' ⟨rfl,hh⟩
 obtain ⟨l1,l2⟩:=line_rel sp.E hr.src hr.line hr.lined
 rcases hh with ⟨h1,h2,h3⟩ | ⟨t,dv,xs,h1,h2,h3⟩
 . have hl:sp.line c=sp:=by
    unfold Sp.line
    rw [l1 h1]
   rw [hl]
   exact ⟨rfl,⟨r,ds,(h.kept (Kept.ofBelow h3 (fun _=>False)) (fun _ _ hh=>hh)).mono (fun k hk=>.inl hk),hr,hl,hP⟩,Kept.ofBelow h3 _⟩
 . have hl:=l2 t h1
   have hlt:(sp.line c).lt=t:=by show (lineF c.late sp.src sp.lt sp.li).1=t;rw [hl]
   have hli:(sp.line c).li=true:=by show (lineF c.late sp.src sp.lt sp.li).2=true;rw [hl]
   have hup:sp.li=true->sp.lt<=t:=fun hi=>by
    unfold lineF at hl
    split at hl
    . split at hl
      . rename_i hx
        rcases hx with hx | hx
        . rw [hi] at hx;cases hx
        . have:=congrArg Prod.fst hl
          simp only at this;omega
      . have:=congrArg Prod.fst hl
        simp only at this;omega
    . have:=congrArg Prod.fst hl
      simp only at this;omega
   have hlen:xs.length<=(sp.E.map fun e=>finN c.size c.slide sp.lt t sp.li e (winN c.size c.slide e.t)).sum:=by
    have e1:xs.length=(finAll r.size r.slide r.line t r.lined sp.E sp.E).length:=by rw [<- h3,List.length_map]
    rw [e1,hr.size,hr.slide,hr.line,hr.lined]
    exact finAll_cnt _ _ _ _ _ _ _
   have hmv:=cntAll_move c.size c.slide sp.lt t sp.li hup sp.E
   have hdn:=hr.done
   refine ⟨rfl,⟨_,ds++xs,⟨h2.rev,h2.done,.inl h.me,fun k hk=>.inl (h.ev k hk),fun k hk=>?_,fun x hx k hk=>?_⟩,⟨hr.size,hr.slide,hr.late,hr.keys,hlt.symm,hli.symm,hr.n,hr.src,hr.rl,hr.rest,?_,hr.ok,hr.shut⟩,sp.line_line c,?_⟩,h2.kept.mono (fun k _ hh=>?_)⟩
   . rcases h2.own k hk with hh | hh
     . exact .inl (h.dn k hh)
     . exact .inr hh
   . rcases h2.tags x hx with hh | hh
     . exact .inl (h.tg x hh k hk)
     . exact .inr (hh k hk)
   . rw [hlt,hli,List.length_append]
     show _<=cntAll c.size c.slide t true sp.E
     omega
   . have h9:=hP.moved hc.a1 hc.a4 t hl hup
     rw [List.map_append,h3,hr.size,hr.slide,hr.line,hr.lined]
     exact h9
   . rcases hh with rfl | hh
     . exact h.me
     . exact h.dn k hh
end Go.Proofs.YtcfngdnmpogaoaaGreat
namespace Go.Proofs.YtcfngdnmpogaoaaGreat
open Go.RowKit Go.MuLone
variable {r:RunS}
theorem infoWinA:(Tryz.prog.info? 70).map (fun i=>(i.zero,i.size,i.bytes))=some (some (.agg #[.string ⟨#[]⟩,.int .i64 0,.int .i64 0,.int .i64 0,.int .i64 0,.int .i64 0,.slice none 0 0]),7,80):=by kernel_rfl
structure NumOk (r:RunS):Prop where
 ps:∀ p ∈ r.ps,-4611686018427387904<=p.first/\p.first<=4611686018427387904
 next:0 < r.inside->-4611686018427387904<=r.next/\r.next<=4611686018427387904
theorem NumOk.start (h:NumOk r):-4611686018427387904<=nextS r/\nextS r<=4611686018427387904:=by
 unfold nextS
 split
 . next h0=>exact h.next h0
 . cases hp:r.ps with
   | nil=>simp
   | cons p l=>exact h.ps p (by rw [hp];exact List.mem_cons_self ..)
theorem NumOk.step (h:NumOk r) (slide:Int) (h1:-4611686018427387904<=nextS r+slide) (h2:nextS r+slide<=4611686018427387904):NumOk (stepR slide r):=
 ⟨fun p hp=>h.ps p (List.mem_of_mem_drop hp),fun _=>⟨h1,h2⟩⟩
theorem stepR_len (slide:Int) (r:RunS):(stepR slide r).ps.length<=r.ps.length:=by
 show (r.ps.drop _).length<=_
 rw [List.length_drop];omega
theorem RunAt.setNext {w:World} {d:RunD} (h:RunAt w d r) (x:Int):RunAt (w.setCell ⟨d.R,3,none⟩ (.int .i64 x)) d { r with next:=x }:=by
 have hoth:∀ k,k ≠ d.R->(w.setCell ⟨d.R,3,none⟩ (.int .i64 x)).heap[k]?=w.heap[k]?:=fun k hk=>heap_setCell_other _ _ _ _ hk
 refine ⟨blkPut h.run 3 _,h.panes.congr (fun k hk=>hoth k ((h.panes.cb hk).ne (Cb.of h.run) (by decide))),h.len,fun i P M p h1 h2=>?_,h.nodP,h.nodM,h.tcM,h.ins,h.parts.congr (fun k hk=>hoth k (fun e=>?_))⟩
 . have hpa:=h.each i P M p h1 h2
   exact hpa.congr (hoth P ((Cb.of hpa.pane).ne (Cb.of h.run) (by decide))) (hoth M (fun e=>(Cb.of h.run).neM hpa.tags.mb e.symm))
 . subst e
   exact h.parts.mid.not (Cb.of h.run) (by decide) (by decide) (by decide) (by decide) hk
theorem RunAt.apart {w:World} {d:RunD} {e:TypeId} {sz:Nat} {v:Value} {xs:List Value} (h:RunAt w d r) (hr:Row w e sz v xs) (he:e=70\/e=26):∀ k,v.ownBlock=some k->¬ d.foot k:=fun k hk hf=>by
 rcases he with rfl | rfl
 . exact (h.kinds hf).ne (hr.cb hk) (by decide) rfl
 . exact (h.kinds hf).ne (hr.cb hk) (by decide) rfl
def tvAp (x y:WinX):Prop:=∀ k,x.tv.ownBlock=some k->y.tv.ownBlock ≠ some k
theorem tvAp.symm {x y:WinX} (h:tvAp x y):tvAp y x:=fun k h1 h2=>h k h2 h1
theorem slideF_len (size slide lt:Int):∀ (n:Nat) (r:RunS) (ws:List (Int × List Pane)),ws.length<=(slideF size slide lt n r ws).2.length
 | 0,_,_=>Nat.le_refl _
 | n+1,r,ws=>by
   rw [slideF]
   split
   . exact Nat.le_refl _
   . refine Nat.le_trans ?_ (slideF_len size slide lt n _ _)
     rw [List.length_append];omega
structure SlLoop (w wr:World) (g:Nat) (sc:SCells) (F0:Nat->Prop) (R:Nat) (ov0:Value) (xs0:List WinX) (key:ByteArray) (RES:RunS × List (Int × List Pane)) (N:Nat) (ov:Value) (xs:List WinX) (d:RunD) (r:RunS) (ws:List (Int × List Pane)) (n:Nat):Prop where
 sf:SF wr g sc
 run:RunAt wr d r
 dR:d.R=R
 foot:∀ k,d.foot k->F0 k\/w.heap.size<=k
 wins:WinsAt wr ov (xs0++xs) 0
 len:xs.length=ws.length
 told:∀ (i:Nat) x s,xs[i]?=some x->ws[i]?=some s->Told s.2 key s.1 x.w
 own:∀ k,ov.ownBlock=some k->ov0.ownBlock=some k\/w.heap.size<=k
 tg:∀ x ∈ xs,∀ k,x.tv.ownBlock=some k->w.heap.size<=k
 kept:Kept (fun k=>F0 k\/ov0.ownBlock=some k) w wr
 key:r.key=key
 res:slideF sc.size sc.slide sc.lt n r ws=RES
 fuel:leftS sc.lt r < n
 few:RES.2.length<=N
 small:r.ps.length<=400000000
 num:NumOk r
 ap:xs.Pairwise tvAp
theorem told_more {q:List Pane} {key:ByteArray} {start:Int} {xs:List WinX} {ws:List (Int × List Pane)} {x:WinX} (hl:xs.length=ws.length) (h:∀ (i:Nat) x s,xs[i]?=some x->ws[i]?=some s->Told s.2 key s.1 x.w) (hx:Told q key start x.w):∀ (i:Nat) y s,(xs++[x])[i]?=some y->(ws++[(start,q)])[i]?=some s->Told s.2 key s.1 y.w:=fun i y s hy hs=>by
 by_cases hi:i < xs.length
 . rw [List.getElem?_append_left hi] at hy
   rw [List.getElem?_append_left (by omega)] at hs
   exact h i y s hy hs
 . have hi2:i=xs.length:=by
    have:=(List.getElem?_eq_some_iff.1 hy).1
    simp at this;omega
   subst hi2
   rw [List.getElem?_append_right (Nat.le_refl _),Nat.sub_self] at hy
   rw [List.getElem?_append_right (by omega),hl,Nat.sub_self] at hs
   simp only [List.getElem?_cons_zero,Option.some.injEq] at hy hs
   subst hy;subst hs
   exact hx
end Go.Proofs.YtcfngdnmpogaoaaGreat
namespace Go.Proofs.YtcfngdnmpogaoaaGreat
open Go.RowKit
variable {E:List Ev} {T:Option Int} {st:St}
theorem nodup_len {α:Type}:∀ (l m:List α),l.Nodup->(∀ x ∈ l,x ∈ m)->l.length<=m.length
 | [],_,_,_=>Nat.zero_le _
 | x :: l,m,h,hs=>by
   obtain ⟨h1,h2⟩:=List.nodup_cons.1 h
   obtain ⟨a,b,rfl⟩:=List.append_of_mem (hs x (List.mem_cons_self ..))
   have:=nodup_len l (a++b) h2 (fun y hy=>by
    have hy2:=hs y (List.mem_cons_of_mem _ hy)
    rcases List.mem_append.1 hy2 with h | h
    . exact List.mem_append_left _ h
    . rcases List.mem_cons.1 h with rfl | h
      . exact absurd hy h1
      . exact List.mem_append_right _ h)
   rw [List.length_append] at this
   rw [List.length_append,List.length_cons,List.length_cons];omega
def candW (size slide:Int) (E:List Ev) (e:Ev):List Win:=(List.range (winN size slide e.t)).map fun j=>winF e.key (startAt slide e.t j) size E
theorem candW_len (size slide:Int) (E es:List Ev) (h1:1<=slide) (h2:size<=4096*slide):(es.flatMap (candW size slide E)).length<=4097*es.length:=by
 induction es with
 | nil=>simp
 | cons e es ih=>
   rw [List.flatMap_cons,List.length_append,List.length_cons]
   have h3:(candW size slide E e).length=winN size slide e.t:=by unfold candW;rw [List.length_map,List.length_range]
   have:=winN_le size slide e.t h1 h2
   omega
theorem Mod.out_len (h:Mod st E T) (hli:E ≠ []->st.li=true) (hz:st.size<=4096*st.slide):(outAll st E (st.es++st.gs)).length<=4097*E.length:=by
 by_cases hE:E=[]
 . subst hE
   obtain ⟨h1,h2⟩:=h.void
   rw [h1,h2];exact Nat.le_refl _
 . refine Nat.le_trans (nodup_len _ (E.flatMap (candW st.size st.slide E)) ?_ (fun x hx=>?_)) (candW_len _ _ _ _ h.conf.s1 hz)
   . exact h.out_apart.imp (fun {a b} hab hne=>hab (by subst hne;exact ⟨rfl,rfl⟩))
   . obtain ⟨key,s,⟨_,⟨e,he,k1,k2,k3,k4⟩,_,_⟩,rfl⟩:=(h.out_mem (hli hE) x).1 hx
     obtain ⟨j,hj,hs⟩:=(start_iff st.size st.slide e.t s h.conf.s1).2 ⟨k2,k3,k4⟩
     refine List.mem_flatMap.2 ⟨e,he,?_⟩
     unfold candW
     exact List.mem_map.2 ⟨j,List.mem_range.2 hj,by rw [k1,hs]⟩
theorem outAll_part {rs a b:List RunS} {r:RunS} (h:rs=a++r :: b):(outAll st E a).length+(slidR st r).2.length<=(outAll st E rs).length:=by
 subst h
 unfold outAll
 rw [List.flatMap_append,List.flatMap_cons,List.length_append,List.length_append]
 have:(outW st E r).length=(slidR st r).2.length:=by unfold outW;rw [List.length_map]
 omega
theorem Mod.run_len (h:Mod st E T) {r:RunS} (hr:r ∈ st.es++st.gs):r.ps.length<=E.length:=by
 have h1:=ps_le_evs r.ps (fun p hp=>((h.good r hr).pane p hp).1)
 have h2:=run_le _ r hr
 have h3:=h.perm.length_eq
 have h4:(untold T st.size st.slide E).length<=E.length:=List.length_filter_le _ _
 omega
theorem Mod.num (h:Mod st E T) (hlt:st.lt<=2305843009213693952) {r:RunS} (hr:r ∈ st.es++st.gs):NumOk r:=by
 have h1:=h.conf.s1
 have h2:=h.conf.s2
 have h3:=h.conf.s3
 have hg:=h.good r hr
 have hps:∀ p ∈ r.ps,-2305843009213693952 - 1099511627776<=p.first/\p.first<=2305843009213693952:=fun p hp=>by
  obtain ⟨hne,hev⟩:=hg.pane p hp
  obtain ⟨e,he⟩:=List.exists_mem_of_ne_nil _ hne
  obtain ⟨_,k2,_⟩:=hev e he
  have hE:e ∈ E:=(List.mem_filter.1 (h.perm.mem_iff.1 ((mem_runEvs _ _).2 ⟨r,hr,p,hp,he⟩))).1
  obtain ⟨_,m1,m2⟩:=h.evs e hE
  obtain ⟨a1,a2⟩:=winFirst_gt st.size st.slide e.t h1
  omega
 refine ⟨fun p hp=>by have:=hps p hp;omega,fun h0=>?_⟩
 have hlen:0 < r.ps.length:=by have:=hg.insLe;omega
 have hp0:r.ps[0]?=some r.ps[0]:=List.getElem?_eq_getElem hlen
 have htold:=(hg.ins 0 _ hp0).1 h0
 have hb:=hps _ (List.getElem_mem hlen)
 cases hT:T with
 | none=>rw [hT] at htold;cases htold
 | some t=>
   rw [hT] at htold
   have h5:decide (r.ps[0].first+st.size<=t)=true:=htold
   have h5:=of_decide_eq_true h5
   have h6:=(h.told t hT).2
   have h7:=hg.nxt h0 t hT
   obtain ⟨a1,a2⟩:=down_le (t - st.size) st.slide h1
   omega
end Go.Proofs.YtcfngdnmpogaoaaGreat
