import Derived.Test.YtcfngdnmpogaoaaGreatTkT18
import Derived.Test.YtcfngdnmpogaoaaGreatTkT09
import Derived.Test.YtcfngdnmpogaoaaGreatTkT16
import Derived.Test.YtcfngdnmpogaoaaGreatTkT08
namespace Go.Proofs.YtcfngdnmpogaoaaGreat
open Go.RowKit Go.MuLone
set_option maxHeartbeats 12800000
set_option maxRecDepth 20000
def ptrs (qs:List PaneQ):List Value:=qs.map fun q=>.pointer (some ⟨q.P,0,none⟩)
structure Found (qs:List PaneQ) (f l:Int) (k:Nat) (fd:Bool):Prop where
 le:k<=qs.length
 less:∀ (t:Nat) q,t < k->qs[t]?=some q->cmpW q.f q.l f l < 0
 more:∀ (t:Nat) q,k<=t->qs[t]?=some q->0<=cmpW q.f q.l f l
 here:fd=true ↔ ∃ q,qs[k]?=some q/\cmpW q.f q.l f l=0
theorem bsearch_all (sv:Value) (qs:List PaneQ) (f l:Int) (w:World) (hrow:Row w 208 1 sv (ptrs qs))
 (hc:∀ q ∈ qs,w.cell? ⟨q.P,0,none⟩=some (.int .i64 q.f)/\w.cell? ⟨q.P,1,none⟩=some (.int .i64 q.l))
 (hmono:∀ (a b:Nat) qa qb,a<=b->qs[a]?=some qa->qs[b]?=some qb->cmpW qb.f qb.l f l < 0->cmpW qa.f qa.l f l < 0) (hsz:qs.length<=4611686018427387904) :
 Calls Tryz.prog 164 #[sv,.agg #[.int .i64 f,.int .i64 l],.func (.func 165) #[] #[]] w fun e w'=>∃ (k:Nat) (fd:Bool),Found qs f l k fd/\e=.returned (.tuple #[.int .i64 (k:Int),.bool fd])/\Below w.heap.size w w':=by
 by_cases hq:qs=[]
 . subst hq
   obtain ⟨a,c,rfl,-⟩:=hrow.slice
   refine (bsearch_zero a c f l _ w).mono ?_
   rintro e w' ⟨rfl,hb⟩
   exact ⟨0,false,⟨Nat.le_refl _,fun t q h=>by omega,fun t q _ h=>by simp at h,⟨fun h=>(by cases h),by rintro ⟨q,h,_⟩;simp at h⟩⟩,rfl,hb⟩
 . obtain ⟨g,o,n,c,rfl,hn,hnc⟩:=hrow.shape (by unfold ptrs;simpa using hq)
   have hn':n=qs.length:=by unfold ptrs at hn;simp at hn;omega
   subst hn'
   refine (bsearch_any g o c qs f l w hrow hc hmono hsz).mono ?_
   rintro e w' ⟨k,h1,h2,h3,⟨fd,rfl,h4⟩,hb⟩
   exact ⟨k,fd,⟨h1,h2,h3,h4⟩,rfl,hb⟩
theorem ptrs_one (qs:List PaneQ):∀ u ∈ ptrs qs,u.oneCell'=true:=fun u hu=>by
 unfold ptrs at hu
 obtain ⟨q,_,rfl⟩:=List.mem_map.1 hu;rfl
theorem ptrs_len (qs:List PaneQ):(ptrs qs).length=qs.length:=by simp [ptrs]
theorem paneOf_raw (R:Nat) (key:ByteArray) (pv qv:Value) (inside next f l:Int) (qs:List PaneQ) (w:World) (hR:w.heap[R]?=some (.cells (runCells key pv inside next qv) 178 (0,0)))
 (hrow:Row w 208 1 pv (ptrs qs))
 (hc:∀ q ∈ qs,w.cell? ⟨q.P,0,none⟩=some (.int .i64 q.f)/\w.cell? ⟨q.P,1,none⟩=some (.int .i64 q.l))
 (hmono:∀ (a b:Nat) qa qb,a<=b->qs[a]?=some qa->qs[b]?=some qb->cmpW qb.f qb.l f l < 0->cmpW qa.f qa.l f l < 0) (hsz:qs.length<=1000000000000) :
 Calls Tryz.prog 147 #[.pointer (some ⟨R,0,none⟩),.agg #[.int .i64 f,.int .i64 l]] w fun e w'=>∃ (k P:Nat) (fd:Bool),Found qs f l k fd/\e=.returned (.pointer (some ⟨P,0,none⟩)) /\
  ((fd=true/\(∃ q,qs[k]?=some q/\q.P=P)/\Below w.heap.size w w') \/
   (fd=false/\∃ M pv',w.heap.size<=P/\w.heap.size<=M/\P ≠ M/\w'.heap[P]?=some (.cells (paneCells f l 0 0 9223372036854775807 (-9223372036854775808) M) 207 (0,0))/\w'.heap[M]?=some (.map #[] 0) /\
    w'.heap[R]?=some (.cells (runCells key pv' inside next qv) 178 (0,0))/\Row w' 208 1 pv' ((ptrs qs).take k++.pointer (some ⟨P,0,none⟩) :: (ptrs qs).drop k)/\(∀ b,pv'.ownBlock=some b->pv.ownBlock=some b\/w.heap.size<=b)/\Kept (fun b=>b=R\/pv.ownBlock=some b) w w')):=by
 have hRs:=blkLt hR
 have B1:Below w.heap.size w (w.alloc (.cells #[.int .i64 f,.int .i64 l] 202)):=(Below.refl _ w).alloc (Nat.le_refl _) _
 have hR1:=blkBelow hR B1
 have hx1:=heap_alloc_new w (.cells #[.int .i64 f,.int .i64 l] 202)
 have hrow1:=hrow.below B1 (fun k hk=>(hrow.blk_lt hk).1)
 have hc1:∀ q ∈ qs,(w.alloc (.cells #[.int .i64 f,.int .i64 l] 202)).cell? ⟨q.P,0,none⟩=some (.int .i64 q.f)/\(w.alloc (.cells #[.int .i64 f,.int .i64 l] 202)).cell? ⟨q.P,1,none⟩=some (.int .i64 q.l):=fun q hq=>by
  obtain ⟨h0,h1⟩:=hc q hq
  exact ⟨(B1.cell (p:=⟨q.P,0,none⟩) (World.block_lt_of_cell? w ⟨q.P,0,none⟩ h0)).trans h0,(B1.cell (p:=⟨q.P,1,none⟩) (World.block_lt_of_cell? w ⟨q.P,1,none⟩ h1)).trans h1⟩
 have hbs:Hid (∀ W,(∀ k,k < (w.alloc (.cells #[.int .i64 f,.int .i64 l] 202)).heap.size->W.heap[k]?=(w.alloc (.cells #[.int .i64 f,.int .i64 l] 202)).heap[k]?)->Calls Tryz.prog 164 #[pv,.agg #[.int .i64 f,.int .i64 l],.func (.func 165) #[] #[]] W fun e w'=>∃ (k:Nat) (fd:Bool),Found qs f l k fd/\e=.returned (.tuple #[.int .i64 (k:Int),.bool fd])/\Below W.heap.size W w'):=fun W hW=>by
  refine bsearch_all pv qs f l W (hrow1.congr (fun k hk=>hW k (hrow1.blk_lt hk).1)) (fun q hq=>?_) hmono (by omega)
  obtain ⟨h0,h1⟩:=hc1 q hq
  have hl:=World.block_lt_of_cell? _ ⟨q.P,0,none⟩ h0
  simp only [World.cell?,hW q.P hl] at h0 h1 ⊢
  exact ⟨h0,h1⟩
 obtain ⟨pa,pc,hpv,hpc⟩:=hrow.slice
 rw [ptrs_len] at hpv hpc
 have HROW:=hid hrow
 have HB1:=hid B1
 have HR0:=hid hR
 clear hc1 hc hmono hrow1 hrow B1 hR
 go_enter Tryz.func147,Tryz.ntmps147
 go_upto_region 1 with fail
 have hRB:¬ R=w.heap.size:=by omega
 have hsz1:w.heap.size < (w.alloc (.cells #[.int .i64 f,.int .i64 l] 202)).heap.size:=by simp
 obtain ⟨B,HBB⟩:∃ B,Hid (w.heap.size=B):=⟨_,rfl⟩
 rw [HBB.out] at hx1 hRB hsz1 HB1 hRs ⊢
 generalize w.alloc (.cells #[.int .i64 f,.int .i64 l] 202)=W1 at *
 subst hpv
 go_cut [5,6] from 7 to 15 (fun s5 s6 wx=>∃ (k:Nat) (fd:Bool),s5=.int .i64 (k:Int)/\s6=.bool fd/\Found qs f l k fd/\wx.heap[B]?=some (.cells #[.int .i64 f,.int .i64 l] 202 (0,0))/\Below B w wx)
 case first=>
  obtain ⟨-,r1,-,-,-,fz⟩:=runAt hR1
  obtain ⟨x0,x1,-,-⟩:=cells2At hx1
  have HX1:=hid hx1
  clear hR1 hx1
  go_region_with (go_at_call 164;refine (hbs.out W1.drew (fun _ _=>rfl)).mono ?_;rintro e w' ⟨k,fd,hF,rfl,hb⟩;have HF:Hid (Found qs f l k fd):=hF;clear hF)
  all_goals
   go_wp2
   go_meet
   refine ⟨k,fd,rfl,rfl,HF.out,?_,?_⟩
   . rw [hb.block B (by simpa using hsz1)];exact HX1.out
   . exact HB1.out.trans ((((Below.refl B W1).drew)).trans (hb.mono (by simpa using Nat.le_of_lt hsz1)))
 case rest=>
  obtain ⟨k,fd,rfl,rfl,hF,hx2,hb2⟩:=hcut
  have hkl:=hF.le
  have HF:=hid hF
  have HB2:=hid hb2
  have HR2:=hid ((hb2.block R (by omega)).trans HR0.out)
  have HROW2:=hid (HROW.out.below hb2 (fun b hb=>by rw [<- HBB.out];exact (HROW.out.blk_lt hb).1))
  clear hR1 hx1 hF hb2 hbs
  cases fd with
  | true=>
    obtain ⟨q,hq,h0⟩:=HF.out.here.1 rfl
    have hkq:k < qs.length:=(List.getElem?_eq_some_iff.1 hq).1
    obtain ⟨g,o,n,c,hv,-,-⟩:=HROW2.out.shape (by intro e;have:=ptrs_len qs;rw [e] at this;simp at this;omega)
    simp only [Value.slice.injEq] at hv
    obtain ⟨rfl,rfl,rfl⟩:=hv
    have hcell:=HROW2.out.cell k (by omega)
    rw [ptrs,List.getElem?_map,hq] at hcell
    obtain ⟨-,r1,-,-,-,-⟩:=runAt HR2.out
    have hkq':(k:Int) < (qs.length:Int):=by omega
    go_wp2
    go_ret
    exact ⟨k,q.P,true,HF.out,rfl,.inl ⟨rfl,⟨q,hq,rfl⟩,by rw [HBB.out];exact HB2.out⟩⟩
  | false=>
    go_upto_region 3 with fail
    go_cut [27] from 18 to 29 (fun _ wx=>∃ P M pv',B<=P/\B<=M/\P ≠ M/\wx.heap[P]?=some (.cells (paneCells f l 0 0 9223372036854775807 (-9223372036854775808) M) 207 (0,0))/\wx.heap[M]?=some (.map #[] 0) /\
     wx.heap[R]?=some (.cells (runCells key pv' inside next qv) 178 (0,0))/\Row wx 208 1 pv' ((ptrs qs).take k++.pointer (some ⟨P,0,none⟩) :: (ptrs qs).drop k)/\(∀ b,pv'.ownBlock=some b->(Value.slice pa qs.length pc).ownBlock=some b\/B<=b)/\Kept (fun b=>b=R\/(Value.slice pa qs.length pc).ownBlock=some b) w wx)
    case first=>
     obtain ⟨-,r1,-,-,-,fz⟩:=runAt HR2.out
     obtain ⟨x0,x1,-,-⟩:=cells2At hx2
     have hRs2:=blkLt HR2.out
     have hBs2:=blkLt hx2
     clear hx2
     have hins:Hid (∀ (w1:World) (P:Nat),Below wc.heap.size wc w1->Calls Tryz.prog 167 #[.slice pa qs.length pc,.int .i64 (k:Int),.slice (some ⟨w1.heap.size,0,none⟩) 1 1] (w1.alloc (.cells #[.pointer (some ⟨P,0,none⟩)] 208)) fun e w'=>∃ va vn vc,e=.returned (.slice va vn vc)/\Row w' 208 1 (.slice va vn vc) ((ptrs qs).take k++.pointer (some ⟨P,0,none⟩) :: (ptrs qs).drop k)/\(∀ b,(Value.slice va vn vc).ownBlock=some b->(Value.slice pa qs.length pc).ownBlock=some b\/w1.heap.size<=b)/\Kept (fun b=>(Value.slice pa qs.length pc).ownBlock=some b) w1 w'):=fun w1 P hb1=>by
      have r1:=HROW2.out.below hb1 (fun b hb=>(HROW2.out.blk_lt hb).1)
      have ba:Below w1.heap.size w1 (w1.alloc (.cells #[.pointer (some ⟨P,0,none⟩)] 208)):=(Below.refl _ w1).alloc (Nat.le_refl _) _
      refine (insert_any (.slice pa qs.length pc) k w1.heap.size (ptrs qs) ⟨P,0,none⟩ _ (r1.below ba (fun b hb=>(r1.blk_lt hb).1)) (ptrs_one qs) (by rw [ptrs_len];exact hkl) (by rw [ptrs_len];omega) (heap_alloc_new w1 _) (fun e=>by have:=(r1.blk_lt e).1;omega)).mono ?_
      rintro e w' ⟨v,rfl,hr,ho,hk⟩
      obtain ⟨va,vc,rfl,-⟩:=hr.slice
      exact ⟨va,_,vc,rfl,hr,fun b hb=>(ho b hb).elim .inl (fun h=>.inr (by simp at h;omega)),(Kept.ofBelow ba _).trans hk⟩
     have hRne:=HROW2.out.ne_block HR2.out (by decide)
     go_region_with (first
      | (go_at_call 168;refine (newPane_any _ _ _).mono ?_;rintro e w1 ⟨P,M,rfl,hP,hM,hPM,hpc',hmc,hb1⟩;have hb1':Below wc.heap.size wc w1:=(((Below.refl wc.heap.size wc).drew)).trans (hb1.mono (Nat.le_refl _));have q1:w1.cell? ⟨R,1,none⟩=some (.slice pa qs.length pc):=(hb1'.cell (p:=⟨R,1,none⟩) hRs2).trans r1;have qf:∀ j,w1.frozen? ⟨R,j,none⟩=false:=fun j=>((bcell hb1').2 R j hRs2).trans (fz j);have hRs3:R < w1.heap.size:=Nat.lt_of_lt_of_le hRs2 hb1'.size)
      | (go_at_call 167;refine (hins.out w1 P hb1').mono ?_;rintro e w2 ⟨va,vn,vc,rfl,hrow,hv,hk2⟩;have s0:w2.heap[R]?=w1.heap[R]?:=hk2.block R hRs3 hRne;have s1:w2.cell? ⟨R,1,none⟩=some (.slice pa qs.length pc):=(by rw [<- q1];simp only [World.cell?,s0]);have sf:∀ j,w2.frozen? ⟨R,j,none⟩=false:=fun j=>(by rw [<- qf j];simp only [World.frozen?,s0])))
     all_goals
      go_wp2
      go_meet
      have hz:B<=wc.heap.size:=by have:=HB2.out.size;rw [HBB.out] at this;exact this
      have hP':wc.heap.size<=P:=by simpa using hP
      have hM':wc.heap.size<=M:=by simpa using hM
      have hpb:∀ b,(Value.slice pa qs.length pc).ownBlock=some b->b < wc.heap.size:=fun b hb=>(HROW2.out.blk_lt hb).1
      have hP2:=(hk2.block P (blkLt hpc') (fun e=>by have:=hpb P e;omega)).trans hpc'
      have hM2:=(hk2.block M (blkLt hmc) (fun e=>by have:=hpb M e;omega)).trans hmc
      have hR2:=s0.trans ((hb1'.block R hRs2).trans HR2.out)
      refine ⟨P,M,.slice va vn vc,by omega,by omega,hPM,blkOther hP2 R 1 _ (by omega),blkOther hM2 R 1 _ (by omega),blkPut hR2 1 _,hrow.setCell ⟨R,1,none⟩ _ (fun e=>?_),fun b hb=>?_,?_⟩
      . rcases hv R e with h | h
        . exact hRne h
        . omega
      . rcases hv b hb with h | h
        . exact .inl h
        . exact .inr (by have:=hb1'.size;omega)
      . have k0:Kept (fun b=>b=R\/(Value.slice pa qs.length pc).ownBlock=some b) w w1:=(Kept.ofBelow (by rw [HBB.out];exact HB2.out) _).trans (Kept.ofBelow hb1' _)
        exact (k0.step hk2 (fun b _ h=>.inr h)).setCell ⟨R,1,none⟩ _ (fun _=>.inl rfl)
    case rest=>
     obtain ⟨P,M,pv',h1,h2,h3,h4,h5,h6,h7,h8,h9⟩:=hcut
     have HH:Hid (B<=P/\B<=M/\P ≠ M/\wc.heap[P]?=some (.cells (paneCells f l 0 0 9223372036854775807 (-9223372036854775808) M) 207 (0,0))/\wc.heap[M]?=some (.map #[] 0) /\
      wc.heap[R]?=some (.cells (runCells key pv' inside next qv) 178 (0,0))/\Row wc 208 1 pv' ((ptrs qs).take k++.pointer (some ⟨P,0,none⟩) :: (ptrs qs).drop k)/\(∀ b,pv'.ownBlock=some b->(Value.slice pa qs.length pc).ownBlock=some b\/B<=b)/\Kept (fun b=>b=R\/(Value.slice pa qs.length pc).ownBlock=some b) w wc):=⟨h1,h2,h3,h4,h5,h6,h7,h8,h9⟩
     obtain ⟨-,r1,-,-,-,-⟩:=runAt h6
     obtain ⟨pg,po,pn,pc',hpv,hpn,-⟩:=h7.shape (by simp)
     subst hpv
     have hlen:pn=qs.length+1:=by
      simp only [List.length_append,List.length_cons,List.length_take,List.length_drop,ptrs_len,Nat.mul_one] at hpn
      omega
     subst hlen
     have p0:wc.cell? ⟨pg,po+k,none⟩=some (.pointer (some ⟨P,0,none⟩)):=by
      have:=h7.cell k (by omega)
      rw [insAt _ _ _ _ (by rw [ptrs_len];exact hkl)] at this
      simpa using this
     have hkq':(k:Int) < ((qs.length+1:Nat):Int):=by omega
     have hkq2:(k:Int) < (qs.length:Int)+1:=by omega
     have hkq3:k < qs.length+1:=by omega
     clear h1 h2 h3 h4 h5 h6 h7 h8 h9
     go_wp2
     go_ret
     obtain ⟨h1,h2,h3,h4,h5,h6,h7,h8,h9⟩:=HH.out
     rw [<- HBB.out] at h1 h2 h8
     exact ⟨k,P,false,HF.out,rfl,.inr ⟨rfl,M,_,h1,h2,h3,h4,h5,h6,h7,h8,h9⟩⟩
end Go.Proofs.YtcfngdnmpogaoaaGreat
namespace Go.Proofs.YtcfngdnmpogaoaaGreat
open Go.RowKit Go.MuLone Go.Maps
variable {d:RunD} {r:RunS}
set_option maxHeartbeats 3200000
def qsOf (d:RunD) (r:RunS):List PaneQ:=List.zipWith (fun (q:Nat × Nat) (p:Pane)=>⟨q.1,p.first,p.last⟩) d.Ps r.ps
theorem qsOf_len (h:d.Ps.length=r.ps.length):(qsOf d r).length=r.ps.length:=by simp [qsOf,h]
theorem qsOf_at {i:Nat} {q:PaneQ} (h:(qsOf d r)[i]?=some q):∃ P M p,d.Ps[i]?=some (P,M)/\r.ps[i]?=some p/\q=⟨P,p.first,p.last⟩:=by
 unfold qsOf at h
 rw [List.getElem?_zipWith] at h
 cases h1:d.Ps[i]? with
 | none=>simp [h1] at h
 | some x=>
   cases h2:r.ps[i]? with
   | none=>simp [h1,h2] at h
   | some p=>simp [h1,h2] at h;exact ⟨x.1,x.2,p,rfl,rfl,h.symm⟩
theorem qsOf_mk {i P M:Nat} {p:Pane} (h1:d.Ps[i]?=some (P,M)) (h2:r.ps[i]?=some p):(qsOf d r)[i]?=some ⟨P,p.first,p.last⟩:=by
 unfold qsOf
 rw [List.getElem?_zipWith,h1,h2]
theorem qsOf_of (h:d.Ps.length=r.ps.length) {t:Nat} {q:Pane} (hq:r.ps[t]?=some q):∃ P M,d.Ps[t]?=some (P,M)/\(qsOf d r)[t]?=some ⟨P,q.first,q.last⟩:=by
 have hti:t < r.ps.length:=(List.getElem?_eq_some_iff.1 hq).1
 have hi:t < d.Ps.length:=by omega
 exact ⟨(d.Ps[t]).1,(d.Ps[t]).2,by simp [hi],qsOf_mk (M:=(d.Ps[t]).2) (by simp [hi]) hq⟩
theorem ptrs_qs (h:d.Ps.length=r.ps.length):ptrs (qsOf d r)=d.Ps.map fun p=>.pointer (some ⟨p.1,0,none⟩):=by
 refine List.ext_getElem? (fun i=>?_)
 unfold ptrs
 rw [List.getElem?_map,List.getElem?_map]
 cases h1:d.Ps[i]? with
 | none=>
   have hi:d.Ps.length<=i:=by simpa using h1
   have:(qsOf d r)[i]?=none:=by rw [List.getElem?_eq_none_iff,qsOf_len h];omega
   rw [this];rfl
 | some x=>
   have hi:i < d.Ps.length:=(List.getElem?_eq_some_iff.1 h1).1
   have h2:r.ps[i]?=some r.ps[i]:=List.getElem?_eq_getElem (by omega)
   rw [qsOf_mk (P:=x.1) (M:=x.2) (by rw [h1]) h2];rfl
theorem insAt' {α:Type} (xs:List α) (k j:Nat) (x:α) (hk:k<=xs.length):(xs.take k++x :: xs.drop k)[j]?=if j < k then xs[j]? else if j=k then some x else xs[j - 1]?:=by
 split
 . rename_i h;rw [List.getElem?_append_left (by simp;omega),List.getElem?_take,if_pos h]
 . rename_i h
   rw [List.getElem?_append_right (by simp;omega),List.length_take,Nat.min_eq_left hk]
   split
   . rename_i h2;subst h2;simp
   . rename_i h2
     rw [show j - k=(j - k - 1)+1 from by omega,List.getElem?_cons_succ,List.getElem?_drop]
     congr 1;omega
theorem ins_perm {α:Type} (xs:List α) (k:Nat) (x:α):(xs.take k++x :: xs.drop k).Perm (x :: xs):=by
 have h:=List.perm_middle (a:=x) (l₁:=xs.take k) (l₂:=xs.drop k)
 rw [List.take_append_drop] at h
 exact h
def Sorted (ps:List Pane):Prop:=∀ (i j:Nat) p q,i < j->ps[i]?=some p->ps[j]?=some q->cmpW p.first p.last q.first q.last < 0
theorem cmpW_lt {a b c d:Int}:cmpW a b c d < 0 ↔ a < c\/a=c/\b < d:=by
 unfold cmpW orI
 rcases cmpI_cases a c with ⟨h1,e1⟩ | ⟨h1,e1⟩ | ⟨h1,e1⟩ <;> rcases cmpI_cases b d with ⟨h2,e2⟩ | ⟨h2,e2⟩ | ⟨h2,e2⟩ <;> rw [e1,e2] <;> simp <;> omega
theorem cmpW_eq {a b c d:Int}:cmpW a b c d=0 ↔ a=c/\b=d:=by
 unfold cmpW orI
 rcases cmpI_cases a c with ⟨h1,e1⟩ | ⟨h1,e1⟩ | ⟨h1,e1⟩ <;> rcases cmpI_cases b d with ⟨h2,e2⟩ | ⟨h2,e2⟩ | ⟨h2,e2⟩ <;> rw [e1,e2] <;> simp <;> omega
structure PaneFor (r:RunS) (f l:Int) (k:Nat) (r':RunS):Prop where
 key:r'.key=r.key
 inside:r'.inside=r.inside
 next:r'.next=r.next
 ins:r.inside<=k
 here:∃ p,r'.ps[k]?=some p/\p.first=f/\p.last=l
 how:r'.ps=r.ps\/(k<=r.ps.length/\(∀ (t:Nat) q,t < k->r.ps[t]?=some q->cmpW q.first q.last f l < 0)/\(∀ (t:Nat) q,k<=t->r.ps[t]?=some q->0 < cmpW q.first q.last f l)/\r'.ps=r.ps.take k++⟨f,l,[]⟩ :: r.ps.drop k)
theorem pane_mono (hs:Sorted r.ps) (f l:Int):∀ (a b:Nat) qa qb,a<=b->(qsOf d r)[a]?=some qa->(qsOf d r)[b]?=some qb->cmpW qb.f qb.l f l < 0->cmpW qa.f qa.l f l < 0:=by
 intro a b qa qb hab ha hb h
 obtain ⟨P,M,p,_,h2,rfl⟩:=qsOf_at ha
 obtain ⟨P',M',p',_,h2',rfl⟩:=qsOf_at hb
 by_cases he:a=b
 . subst he;rw [h2] at h2';cases h2';exact h
 . have:=hs a b p p' (by omega) h2 h2'
   rw [cmpW_lt] at this h ⊢
   simp only at h ⊢
   omega
theorem paneOf_run (d:RunD) (r:RunS) (f l:Int) (w:World) (h:RunAt w d r) (hs:Sorted r.ps) (hn:r.ps.length<=1000000000000) (hin:∀ (t:Nat) q,t < r.inside->r.ps[t]?=some q->cmpW q.first q.last f l < 0) :
 Calls Tryz.prog 147 #[.pointer (some ⟨d.R,0,none⟩),.agg #[.int .i64 f,.int .i64 l]] w fun e w'=>∃ k P M d' r',e=.returned (.pointer (some ⟨P,0,none⟩))/\PaneFor r f l k r'/\RunAt w' d' r'/\d'.R=d.R/\d'.Ps[k]?=some (P,M)/\(∀ x,d'.foot x->d.foot x\/w.heap.size<=x)/\Kept d.foot w w':=by
 have hrow:=h.panes
 rw [<- ptrs_qs h.len] at hrow
 refine (paneOf_raw d.R r.key d.pv _ (r.inside:Int) r.next f l (qsOf d r) w h.run hrow (fun q hq=>?_) (pane_mono hs f l) (by rw [qsOf_len h.len];exact hn)).mono ?_
 . obtain ⟨i,hi,rfl⟩:=List.mem_iff_getElem.1 hq
   obtain ⟨P,M,p,h1,h2,e⟩:=qsOf_at (List.getElem?_eq_getElem hi)
   rw [e]
   obtain ⟨c0,c1,-,-,-,-,-,-⟩:=paneAt (h.each i P M p h1 h2).pane
   exact ⟨c0,c1⟩
 . rintro e w' ⟨k,P,fd,hF,rfl,hcase⟩
   have hle:=hF.le
   rw [qsOf_len h.len] at hle
   have hik:r.inside<=k:=by
    refine Nat.le_of_not_lt (fun hk=>?_)
    have hk2:k < r.ps.length:=by have:=h.ins;omega
    have h2:r.ps[k]?=some r.ps[k]:=List.getElem?_eq_getElem hk2
    obtain ⟨P0,M0,-,hq0⟩:=qsOf_of h.len h2
    have g1:=hF.more k _ (Nat.le_refl _) hq0
    have g2:=hin k _ hk h2
    simp only at g1
    omega
   rcases hcase with ⟨rfl,⟨q,hq,hqP⟩,hb⟩ | ⟨rfl,M,pv',hP,hM,hPM,hpane,hmap,hrun,hrow',hown,hkp⟩
   . obtain ⟨P',M',p,h1,h2,e⟩:=qsOf_at hq
     obtain ⟨q',hq',h0⟩:=hF.here.1 rfl
     rw [hq] at hq'
     cases hq'
     rw [e] at h0 hqP
     rw [cmpW_eq] at h0
     simp only at h0 hqP
     subst hqP
     exact ⟨k,P',M',d,r,rfl,⟨rfl,rfl,rfl,hik,⟨p,h2,h0.1,h0.2⟩,.inl rfl⟩,h.congr (fun x hx=>hb.block x (h.lt hx)),rfl,h1,fun x hx=>.inl hx,Kept.ofBelow hb _⟩
   . have hqk:∀ (t:Nat) q,k<=t->r.ps[t]?=some q->0 < cmpW q.first q.last f l:=by
      intro t q ht hq
      have hti:t < r.ps.length:=(List.getElem?_eq_some_iff.1 hq).1
      obtain ⟨P0,M0,-,hq0⟩:=qsOf_of h.len hq
      have hm:=hF.more t _ ht hq0
      simp only at hm
      by_cases h0:cmpW q.first q.last f l=0
      . exfalso
        by_cases htk:t=k
        . subst htk
          have:=hF.here.2 ⟨_,hq0,h0⟩
          cases this
        . have hki:k < r.ps.length:=by omega
          have hk2:r.ps[k]?=some r.ps[k]:=List.getElem?_eq_getElem hki
          obtain ⟨P1,M1,-,hq1⟩:=qsOf_of h.len hk2
          have hmk:=hF.more k _ (Nat.le_refl _) hq1
          have:=hs k t _ _ (by omega) hk2 hq
          have e0:=cmpW_eq.1 h0
          rw [e0.1,e0.2] at this
          simp only at hmk
          omega
      . omega
     have hlt:∀ x,d.foot x->x < w.heap.size:=fun x hx=>h.lt hx
     have hPs:∀ q ∈ d.Ps,q.1 < w.heap.size/\q.2 < w.heap.size:=fun q hq=>⟨hlt _ (.inr (.inr (.inl ⟨q,hq,.inl rfl⟩))),hlt _ (.inr (.inr (.inl ⟨q,hq,.inr rfl⟩)))⟩
     have hbn:∀ x,d.foot x->x ≠ d.R->d.pv.ownBlock ≠ some x->w'.heap[x]?=w.heap[x]?:=fun x hx h1 h2=>hkp.block x (hlt x hx) (fun hh=>hh.elim h1 h2)
     have hpaneNe:∀ q ∈ d.Ps,(q.1 ≠ d.R/\d.pv.ownBlock ≠ some q.1)/\(q.2 ≠ d.R/\d.pv.ownBlock ≠ some q.2):=fun q hq=>by
      obtain ⟨p,hp⟩:=h.at hq
      refine ⟨⟨(Cb.of hp.pane).ne (Cb.of h.run) (by decide),fun e=>(h.panes.cb e).ne (Cb.of hp.pane) (by decide) rfl⟩,⟨fun e=>(Cb.of h.run).neM hp.tags.mb e.symm,fun e=>(h.panes.cb e).neM hp.tags.mb rfl⟩⟩
     have hpartNe:∀ x,partsFoot d.b d.cv d.gv x->x ≠ d.R/\d.pv.ownBlock ≠ some x:=fun x hx=>by
      rcases h.parts.kind hx with ⟨_,c⟩ | ⟨_,c⟩ | ⟨_,c⟩ | ⟨_,c⟩ | c
      . exact ⟨c.ne (Cb.of h.run) (by decide),fun e=>(h.panes.cb e).ne c (by decide) rfl⟩
      . exact ⟨c.ne (Cb.of h.run) (by decide),fun e=>(h.panes.cb e).ne c (by decide) rfl⟩
      . exact ⟨fun e=>(Cb.of h.run).neM c e.symm,fun e=>(h.panes.cb e).neM c rfl⟩
      . exact ⟨c.ne (Cb.of h.run) (by decide),fun e=>(h.panes.cb e).ne c (by decide) rfl⟩
      . exact ⟨c.ne (Cb.of h.run) (by decide),fun e=>(h.panes.cb e).ne c (by decide) rfl⟩
     have hkd:k<=d.Ps.length:=by rw [h.len];exact hle
     refine ⟨k,P,M,{ d with pv:=pv',Ps:=d.Ps.take k++(P,M) :: d.Ps.drop k },{ r with ps:=r.ps.take k++⟨f,l,[]⟩ :: r.ps.drop k },rfl,⟨rfl,rfl,rfl,hik,⟨⟨f,l,[]⟩,?_,rfl,rfl⟩,.inr ⟨hle,?_,hqk,rfl⟩⟩,?_,rfl,?_,?_,?_⟩
     . show (r.ps.take k++_ :: r.ps.drop k)[k]?=_
       rw [insAt' _ _ _ _ hle];simp
     . intro t q ht hq
       obtain ⟨P0,M0,-,hq0⟩:=qsOf_of h.len hq
       exact hF.less t _ ht hq0
     . refine ⟨hrun,?_,?_,?_,?_,?_,?_,?_,?_⟩
       . have e:((d.Ps.take k++(P,M) :: d.Ps.drop k).map fun p=>Value.pointer (some ⟨p.1,0,none⟩))=(ptrs (qsOf d r)).take k++.pointer (some ⟨P,0,none⟩) :: (ptrs (qsOf d r)).drop k:=by
          rw [ptrs_qs h.len,List.map_append,List.map_cons,List.map_take,List.map_drop]
         show Row w' _ 1 pv' _
         rw [e];exact hrow'
       . show (d.Ps.take k++(P,M) :: d.Ps.drop k).length=(r.ps.take k++_ :: r.ps.drop k).length
         rw [(ins_perm d.Ps k (P,M)).length_eq,(ins_perm r.ps k _).length_eq,List.length_cons,List.length_cons,h.len]
       . intro i P' M' p' h1 h2
         simp only at h1 h2
         rw [insAt' _ _ _ _ hkd] at h1
         rw [insAt' _ _ _ _ hle] at h2
         have old:∀ j,d.Ps[j]?=some (P',M')->r.ps[j]?=some p'->PaneAt w' P' M' p':=fun j h1 h2=>by
          have hm:=List.mem_of_getElem? h1
          obtain ⟨⟨a1,a2⟩,⟨a3,a4⟩⟩:=hpaneNe _ hm
          exact (h.each j P' M' p' h1 h2).congr (hbn P' (.inr (.inr (.inl ⟨_,hm,.inl rfl⟩))) a1 a2) (hbn M' (.inr (.inr (.inl ⟨_,hm,.inr rfl⟩))) a3 a4)
         by_cases hik':i < k
         . rw [if_pos hik'] at h1 h2
           exact old i h1 h2
         . rw [if_neg hik'] at h1 h2
           by_cases he:i=k
           . rw [if_pos he] at h1 h2
             simp only [Option.some.injEq,Prod.mk.injEq] at h1 h2
             obtain ⟨rfl,rfl⟩:=h1
             subst h2
             refine ⟨?_,0,by omega,mapMade hmap⟩
             rw [hpane,cntV_nil,sumV_nil];rfl
           . rw [if_neg he] at h1 h2
             exact old (i - 1) h1 h2
       . show ((d.Ps.take k++(P,M) :: d.Ps.drop k).map Prod.fst).Nodup
         rw [((ins_perm d.Ps k (P,M)).map Prod.fst).nodup_iff,List.map_cons,List.nodup_cons]
         refine ⟨fun hm=>?_,h.nodP⟩
         obtain ⟨q,hq,e⟩:=List.mem_map.1 hm
         have:=(hPs q hq).1
         omega
       . show ((d.Ps.take k++(P,M) :: d.Ps.drop k).map Prod.snd).Nodup
         rw [((ins_perm d.Ps k (P,M)).map Prod.snd).nodup_iff,List.map_cons,List.nodup_cons]
         refine ⟨fun hm=>?_,h.nodM⟩
         obtain ⟨q,hq,e⟩:=List.mem_map.1 hm
         have:=(hPs q hq).2
         omega
       . intro q hq
         rcases List.mem_cons.1 ((ins_perm d.Ps k (P,M)).mem_iff.1 hq) with rfl | hq
         . have:=hlt (d.b+2) (.inr (.inr (.inr (.inl (by omega)))))
           show M ≠ d.b+2
           omega
         . exact h.tcM q hq
       . show r.inside<=(r.ps.take k++_ :: r.ps.drop k).length
         rw [(ins_perm r.ps k _).length_eq,List.length_cons]
         have:=h.ins;omega
       . show PartsAt w' d.b d.cv d.gv ((r.ps.take k++_ :: r.ps.drop k).take r.inside)
         have e:(r.ps.take k++⟨f,l,[]⟩ :: r.ps.drop k).take r.inside=r.ps.take r.inside:=by
          rw [List.take_append,List.take_take,List.length_take,Nat.min_eq_left hle,Nat.min_eq_left hik,show r.inside - k=0 from by omega];simp
         rw [e]
         exact h.parts.congr (fun x hx=>hbn x (.inr (.inr (.inr hx))) (hpartNe x hx).1 (hpartNe x hx).2)
     . show (d.Ps.take k++(P,M) :: d.Ps.drop k)[k]?=_
       rw [insAt' _ _ _ _ hkd];simp
     . rintro x (hx | hx | ⟨q,hq,hx⟩ | hx)
       . exact .inl (.inl hx)
       . rcases hown x hx with h1 | h1
         . exact .inl (.inr (.inl h1))
         . exact .inr h1
       . rcases List.mem_cons.1 ((ins_perm d.Ps k (P,M)).mem_iff.1 hq) with rfl | hq
         . right;rcases hx with e | e <;> rw [e] <;> assumption
         . exact .inl (.inr (.inr (.inl ⟨q,hq,hx⟩)))
       . exact .inl (.inr (.inr (.inr hx)))
     . exact hkp.mono (fun b _ hb=>hb.elim (fun e=>.inl e) (fun e=>.inr (.inl e)))
end Go.Proofs.YtcfngdnmpogaoaaGreat
namespace Go.Proofs.YtcfngdnmpogaoaaGreat
open Go.RowKit Go.MuLone
set_option maxHeartbeats 1600000
set_option maxRecDepth 20000
structure RunX where
 d:RunD
 r:RunS
def Rof (xs:List RunX):List Nat:=xs.map fun x=>x.d.R
def Apart (x y:RunX):Prop:=∀ k,x.d.foot k->¬ y.d.foot k
theorem Apart.symm {x y:RunX} (h:Apart x y):Apart y x:=fun k h1 h2=>h k h2 h1
structure FlowAt (w:World) (g:Nat) (r:SCells) (gs es:List RunX):Prop where
 sf:SF w g r
 going:Row w 150 1 r.going (runPtrs (Rof gs))
 ended:Row w 150 1 r.ended (runPtrs (Rof es))
 rows:∀ k,r.going.ownBlock=some k->r.ended.ownBlock ≠ some k
 runs:∀ x ∈ gs++es,RunAt w x.d x.r
 disj:(gs++es).Pairwise Apart
def flowFoot (g:Nat) (r:SCells) (gs es:List RunX) (k:Nat):Prop:=k=g\/r.going.ownBlock=some k\/r.ended.ownBlock=some k\/∃ x ∈ gs++es,x.d.foot k
theorem FlowAt.lt {w:World} {g:Nat} {r:SCells} {gs es:List RunX} (h:FlowAt w g r gs es) {k:Nat} (hk:flowFoot g r gs es k):k < w.heap.size:=by
 rcases hk with rfl | hk | hk | ⟨x,hx,hk⟩
 . exact h.sf.lt
 . exact (h.going.blk_lt hk).1
 . exact (h.ended.blk_lt hk).1
 . exact (h.runs x hx).lt hk
theorem FlowAt.congr {w w':World} {g:Nat} {r:SCells} {gs es:List RunX} (h:FlowAt w g r gs es) (hb:∀ k,flowFoot g r gs es k->w'.heap[k]?=w.heap[k]?):FlowAt w' g r gs es:=
 ⟨h.sf.congr (hb g (.inl rfl)),h.going.congr (fun k hk=>hb k (.inr (.inl hk))),h.ended.congr (fun k hk=>hb k (.inr (.inr (.inl hk)))),h.rows,fun x hx=>(h.runs x hx).congr (fun k hk=>hb k (.inr (.inr (.inr ⟨x,hx,hk⟩)))),h.disj⟩
theorem FlowAt.below {w w':World} {g:Nat} {r:SCells} {gs es:List RunX} (h:FlowAt w g r gs es) (hb:Below w.heap.size w w'):FlowAt w' g r gs es:=h.congr (fun k hk=>hb.block k (h.lt hk))
theorem FlowAt.runNe {w:World} {g:Nat} {r:SCells} {gs es:List RunX} (h:FlowAt w g r gs es) {x:RunX} (hx:x ∈ gs++es) {k:Nat} (hk:x.d.foot k):k ≠ g/\r.going.ownBlock ≠ some k/\r.ended.ownBlock ≠ some k:=by
 have hkd:=(h.runs x hx).kinds hk
 refine ⟨hkd.ne (Cb.of h.sf.blk) (by decide),fun e=>hkd.ne (h.going.cb e) (by decide) rfl,fun e=>hkd.ne (h.ended.cb e) (by decide) rfl⟩
theorem FlowAt.gNe {w:World} {g:Nat} {r:SCells} {gs es:List RunX} (h:FlowAt w g r gs es):r.going.ownBlock ≠ some g/\r.ended.ownBlock ≠ some g:=
 ⟨fun e=>(h.going.cb e).ne (Cb.of h.sf.blk) (by decide) rfl,fun e=>(h.ended.cb e).ne (Cb.of h.sf.blk) (by decide) rfl⟩
theorem FlowAt.turn {w w':World} {g:Nat} {r r':SCells} {gs es:List RunX} (h:FlowAt w g r gs es) (hk:Kept (fun k=>k=g) w w') (hs:SF w' g r') (h1:r'.going=r.going) (h2:r'.ended=r.ended):FlowAt w' g r' gs es:=by
 have hne:=h.gNe
 refine ⟨hs,?_,?_,by rw [h1,h2];exact h.rows,fun x hx=>(h.runs x hx).kept hk (fun k hf=>(h.runNe hx hf).1),h.disj⟩
 . rw [h1];exact h.going.kept hk (fun k hf e=>hne.1 (by rw [<- e];exact hf))
 . rw [h2];exact h.ended.kept hk (fun k hf e=>hne.2 (by rw [<- e];exact hf))
theorem Rof_nodup {xs:List RunX} (hd:xs.Pairwise Apart):(Rof xs).Nodup:=by
 unfold Rof
 rw [List.nodup_iff_pairwise_ne,List.pairwise_map]
 exact hd.imp (fun {x y} h e=>h x.d.R (.inl rfl) (.inl e))
def pastRun (size lt:Int) (r:RunS):Bool:=match r.ps.getLast? with
 | some p=>decide (p.last+size<=lt)
 | none=>false
theorem ended_run (g B:Nat) (r:SCells) (d:RunD) (rs:RunS) (w:World) (hs:SF w g r) (h:RunAt w d rs) (hB:w.cell? ⟨B,0,none⟩=some (.pointer (some ⟨g,0,none⟩))) (hne:rs.ps ≠ []) (hn:rs.ps.length<=1000000000000)
 (hw:∀ p ∈ rs.ps,IntKind.i64.wrap (p.last+r.size)=p.last+r.size) :
 Calls Tryz.prog 142 #[.pointer (some ⟨d.R,0,none⟩),.pointer (some ⟨B,0,none⟩)] w fun e w'=>e=.returned (.bool (pastRun r.size r.lt rs))/\∃ m,w'=w.drewN m:=by
 obtain ⟨n,hnl⟩:∃ n,rs.ps.length=n+1:=⟨rs.ps.length - 1,by have:=List.length_pos_iff.2 hne;omega⟩
 have hp:rs.ps[n]?=some rs.ps[n]:=List.getElem?_eq_getElem (by omega)
 have hlast:rs.ps.getLast?=some rs.ps[n]:=by rw [List.getLast?_eq_getElem?,show rs.ps.length - 1=n from by omega];exact hp
 obtain ⟨⟨P,M⟩,hPM⟩:∃ x,d.Ps[n]?=some x:=⟨d.Ps[n]'(by rw [h.len];omega),List.getElem?_eq_getElem (by rw [h.len];omega)⟩
 obtain ⟨-,c1,-,-,-,-,-,-⟩:=paneAt (h.each n P M _ hPM hp).pane
 have hwp:=hw rs.ps[n] (by simp)
 unfold pastRun
 rw [hlast]
 simp only
 generalize rs.ps[n].last=last at *
 obtain ⟨-,r1,-,-,-,-⟩:=runAt h.run
 obtain ⟨pg,po,pn,pc,hpv,hpn,-⟩:=h.panes.shape (by intro e;have:=congrArg List.length e;simp [h.len] at this;exact hne this)
 have hpn1:pn=n+1:=by simp [h.len,hnl] at hpn;omega
 subst hpn1
 have p0:w.cell? ⟨pg,po+n,none⟩=some (.pointer (some ⟨P,0,none⟩)):=by
  have:=h.panes;rw [hpv] at this
  have:=this.cell n (by omega)
  rw [List.getElem?_map,hPM] at this;simpa using this
 rw [hpv] at r1
 have hq:=fun m=>isFinished_any g r last (w.drewN m) (hs.congr (by simp)) hwp
 have hwn:IntKind.i64.wrap (((n+1:Nat):Int) - 1)=(n:Int):=by rw [IntKind.wrap_i64];omega
 have hwn2:IntKind.i64.wrap ((n:Int)+1 - 1)=(n:Int):=by rw [IntKind.wrap_i64];omega
 have hnn:(n:Int) < ((n+1:Nat):Int):=by omega
 have hnn2:(n:Int) < (n:Int)+1:=by omega
 clear h hs hw hwp hp hlast hPM hpv hpn hne
 go_enter Tryz.func142,Tryz.ntmps142
 go_wp2_with fail
 go_quiet ((go_at_call 101;exact Calls.quiet_of (hq _)))
 go_wp2
 go_ret
 exact ⟨rfl,nq,rfl⟩
end Go.Proofs.YtcfngdnmpogaoaaGreat
