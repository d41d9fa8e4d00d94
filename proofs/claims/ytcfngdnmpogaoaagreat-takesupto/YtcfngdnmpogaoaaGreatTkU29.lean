import Derived.Test.YtcfngdnmpogaoaaGreatTkU05
import Derived.Test.YtcfngdnmpogaoaaGreatTkT06
namespace Go.Proofs.YtcfngdnmpogaoaaGreat
open Go.RowKit
variable {W W' w:World} {bw:Nat} {d d1:HoldD} {hs:List HoldD} {ps v:Value}
structure WInv (w:World) (bw:Nat) (ps hv:Value) (hs:List HoldD):Prop where
 blk:w.heap[bw]?=some (.cells #[ps,hv] 84 (0,0))
 row:Row w 133 1 hv (hs.map fun d=>.pointer (some ⟨d.hb,0,none⟩))
 holds:∀ d ∈ hs,Hold w d
theorem Hold.kept {X:Nat->Prop} (h:Hold w d) (hk:Kept X w W) (h0:¬ X d.hb) (h1:∀ k,d.vb.ownBlock=some k->¬ X k) (h2:∀ k,d.vt.ownBlock=some k->¬ X k) (h3:∀ k,d.vw.ownBlock=some k->¬ X k):Hold W d:=
 ⟨(hk.block d.hb (Array.getElem?_eq_some_iff.1 h.blk).1 h0).trans h.blk,h.rb.kept hk h1,h.rt.kept hk h2,h.rw_.kept hk h3,h.lb,h.lt,h.lw⟩
theorem world_cells {x0 x1:Value} {t:TypeId} (h:w.heap[bw]?=some (.cells #[x0,x1] t (0,0))) :
 w.cell? ⟨bw,0,none⟩=some x0/\w.cell? ⟨bw,1,none⟩=some x1/\(∀ j,w.frozen? ⟨bw,j,none⟩=false)/\bw < w.heap.size:=by
 refine ⟨?_,?_,fun j=>frozen_of_row w _ j _ _ h,(Array.getElem?_eq_some_iff.1 h).1⟩ <;> (rw [cell_of_row w _ _ _ _ _ h];rfl)
theorem WInv.put {w1:World} {hv hv1:Value} {o:Obj} (h:WInv W bw ps hv hs) (hd:Hold W d)
 (ha:App (W.alloc o) w1 133 1 hv hv1 (hs.map fun d=>.pointer (some ⟨d.hb,0,none⟩)) [.pointer (some ⟨d.hb,0,none⟩)]) :
 WInv (w1.setCell ⟨bw,1,none⟩ hv1) bw ps hv1 (hs++[d])/\Kept (fun k=>k=bw\/hv.ownBlock=some k) W (w1.setCell ⟨bw,1,none⟩ hv1)/\Stepped W hv hv1:=by
 have hb1:=App.other ha h.row h.blk (by decide)
 have hgr:Grew bw W (w1.setCell ⟨bw,1,none⟩ hv1) 133 1 hv hv1 _ _:=Grew.of ha hb1 (by decide)
 have hH:∀ d,Hold W d->Hold (w1.setCell ⟨bw,1,none⟩ hv1) d:=fun d hd=>by
  refine hd.kept hgr.kept ?_ ?_ ?_ ?_
  . rintro (e | e)
    . exact h.row.ne_block hd.blk (by decide) e
    . have hq:=h.blk;rw [<- e,hd.blk] at hq;simp at hq
  . intro k hk;rintro (e | e)
    . exact hd.rb.apart h.row (by decide) hk e
    . subst e;exact hd.rb.ne_block h.blk (by decide) hk
  . intro k hk;rintro (e | e)
    . exact hd.rt.apart h.row (by decide) hk e
    . subst e;exact hd.rt.ne_block h.blk (by decide) hk
  . intro k hk;rintro (e | e)
    . exact hd.rw_.apart h.row (by decide) hk e
    . subst e;exact hd.rw_.ne_block h.blk (by decide) hk
 refine ⟨⟨heap_setCell_same w1 bw 1 _ _ hv1 hb1,by simpa using hgr.row,fun d' hd'=>?_⟩,?_,hgr.step⟩
 . rcases List.mem_append.1 hd' with h' | h'
   . exact hH _ (h.holds _ h')
   . rw [List.mem_singleton.1 h'];exact hH _ hd
 . exact hgr.kept.mono (fun k _ h=>h.symm)
def Linked (d' d:HoldD):Prop:=
 (d'.vb.ownBlock=d.vb.ownBlock->offOf d'.vb=offOf d.vb/\d'.nb<=d.nb) /\
 (d'.vt.ownBlock=d.vt.ownBlock->offOf d'.vt=offOf d.vt/\d'.nt<=d.nt) /\
 (d'.vw.ownBlock=d.vw.ownBlock->offOf d'.vw=offOf d.vw/\d'.nw<=d.nw)
theorem Linked.refl (d:HoldD):Linked d d:=⟨fun _=>⟨rfl,Nat.le_refl _⟩,fun _=>⟨rfl,Nat.le_refl _⟩,fun _=>⟨rfl,Nat.le_refl _⟩⟩
theorem Row.none {e:TypeId} {sz:Nat} {xs:List Value} (h:Row w e sz v xs) (hn:v.ownBlock=none):offOf v=0/\xs=[]:=by
 rcases h with ⟨rfl,h⟩ | ⟨g,off,n,cap,cur,rfl,_⟩
 . exact ⟨rfl,h⟩
 . simp [Value.ownBlock] at hn
theorem link_one {e:TypeId} {sz:Nat} {u v1:Value} {ys:List Value} {nu n n1:Nat} (hu:Row w e sz u ys) (hs:Stepped w v v1) (hn:n<=n1) (hl:u.ownBlock=v.ownBlock->offOf u=offOf v/\nu<=n):u.ownBlock=v1.ownBlock->offOf u=offOf v1/\nu<=n1:=by
 intro he
 rcases hs with ⟨h1,h2⟩ | ⟨k,h1,h2⟩
 . have:=hl (he.trans h1)
   exact ⟨this.1.trans h2.symm,by omega⟩
 . rw [h1] at he
   have:=(hu.blk_lt he).1
   omega
theorem Longer.linked {d':HoldD} (hL:Longer W W' d d1) (hd':Hold W d') (hl:Linked d' d):Linked d' d1:=by
 obtain ⟨_,e1,e2,e3⟩:=hL.same
 exact ⟨link_one hd'.rb hL.pb (by omega) hl.1,link_one hd'.rt hL.pt (by omega) hl.2.1,link_one hd'.rw_ hL.pw (by omega) hl.2.2⟩
theorem Longer.holds {d':HoldD} (hL:Longer W W' d d1) (hd:Hold W d) (hd':Hold W d') (hl:Linked d' d):Hold W' d':=by
 refine ⟨(hL.kept.block d'.hb (Array.getElem?_eq_some_iff.1 hd'.blk).1 ?_).trans hd'.blk,?_,?_,?_,hd'.lb,hd'.lt,hd'.lw⟩
 . rintro (h | h | h)
   . exact hd.rb.ne_block hd'.blk (by decide) h
   . exact hd.rt.ne_block hd'.blk (by decide) h
   . exact hd.rw_.ne_block hd'.blk (by decide) h
 . exact hL.sb _ _ hd'.rb (fun e=>by rw [signs_len];exact hl.1 e)
 . exact hL.st _ _ hd'.rt (fun e=>by rw [tagsOf_len];exact hl.2.1 e)
 . exact hL.sw _ _ hd'.rw_ (fun e=>by rw [winOf_len];have:=hl.2.2 e;exact ⟨this.1,by omega⟩)
theorem WInv.longer {hv:Value} (h:WInv W bw ps hv hs) (hd:Hold W d) (hL:Longer W W' d d1) (hl:∀ d' ∈ hs,Linked d' d):WInv W' bw ps hv hs:=by
 refine ⟨(hL.kept.block bw (Array.getElem?_eq_some_iff.1 h.blk).1 ?_).trans h.blk,h.row.kept hL.kept ?_,fun d' hd'=>hL.holds hd (h.holds d' hd') (hl d' hd')⟩
 . rintro (e | e | e)
   . exact hd.rb.ne_block h.blk (by decide) e
   . exact hd.rt.ne_block h.blk (by decide) e
   . exact hd.rw_.ne_block h.blk (by decide) e
 . intro k hk
   rintro (e | e | e)
   . exact h.row.apart hd.rb (by decide) hk e
   . exact h.row.apart hd.rt (by decide) hk e
   . exact h.row.apart hd.rw_ (by decide) hk e
def HoldIn (N:Nat->Prop) (d:HoldD):Prop:=N d.hb/\(∀ k,d.vb.ownBlock=some k->N k)/\(∀ k,d.vt.ownBlock=some k->N k)/\∀ k,d.vw.ownBlock=some k->N k
structure KInv (T N:Nat->Prop) (w W:World) (bw:Nat) (ps:Value) (hs:List HoldD) (len:Nat × Nat × Nat) (n:Nat) (d:HoldD) (hvn:Value) (hsn:List HoldD):Prop where
 inv:WInv W bw ps hvn (hs++hsn)
 many:hsn.length=n+1
 mem:d ∈ hsn
 kept:Kept T w W
 hvb:∀ k,hvn.ownBlock=some k->T k
 nums:d.nb=len.1+n/\d.nt=len.2.1+n/\d.nw=len.2.2+n
 bb:∀ k,d.vb.ownBlock=some k->T k
 bt:∀ k,d.vt.ownBlock=some k->T k
 bwd:∀ k,d.vw.ownBlock=some k->T k
 links:∀ d' ∈ hs++hsn,Linked d' d
 news:∀ d' ∈ hsn,HoldIn N d'
theorem stepped_in {T:Nat->Prop} {b:Nat} {v1:Value} (h:Stepped W v v1) (hs:b<=W.heap.size) (hT:∀ k,b<=k->T k) (hv:∀ k,v.ownBlock=some k->T k):∀ k,v1.ownBlock=some k->T k:=by
 intro k hk
 rcases h with ⟨h1,_⟩ | ⟨k',h1,h2⟩
 . exact hv k (h1 ▸ hk)
 . rw [h1] at hk;simp only [Option.some.injEq] at hk;exact hT k (by omega)
theorem KInv.step {T N:Nat->Prop} {w1:World} {hvn hv1:Value} {hsn:List HoldD} {len:Nat × Nat × Nat} {n:Nat} {o:Obj} (h:KInv T N w W bw ps hs len n d hvn hsn) (hN:∀ k,w.heap.size<=k->N k) (hT:∀ k,w.heap.size<=k->T k) (hTb:T bw) (hL:Longer W W' d d1)
 (ha:App (W'.alloc o) w1 133 1 hvn hv1 ((hs++hsn).map fun d=>.pointer (some ⟨d.hb,0,none⟩)) [.pointer (some ⟨d1.hb,0,none⟩)]) :
 KInv T N w (w1.setCell ⟨bw,1,none⟩ hv1) bw ps hs len (n+1) d1 hv1 (hsn++[d1]):=by
 have hd:=h.inv.holds d (List.mem_append_right _ h.mem)
 have hW':=h.inv.longer hd hL h.links
 obtain ⟨p1,p2,p3⟩:=hW'.put hL.hold ha
 obtain ⟨_,e1,e2,e3⟩:=hL.same
 obtain ⟨n1,n2,n3⟩:=h.nums
 have hs1:w.heap.size<=W.heap.size:=h.kept.size
 have hs2:W.heap.size<=W'.heap.size:=hL.kept.size
 refine ⟨by rw [List.append_assoc] at p1;exact p1,by simp [h.many],by simp,?_,stepped_in p3 (by omega) hT h.hvb,⟨by omega,by omega,by omega⟩,stepped_in hL.pb (by omega) hT h.bb,stepped_in hL.pt (by omega) hT h.bt,stepped_in hL.pw (by omega) hT h.bwd,?_,?_⟩
 . refine (h.kept.step hL.kept ?_).step p2 ?_
   . intro i hi
     rintro (e | e | e)
     . exact h.bb i e
     . exact h.bt i e
     . exact h.bwd i e
   . intro i hi
     rintro (e | e)
     . rw [e];exact hTb
     . exact h.hvb i e
 . intro d' hd'
   rw [<- List.append_assoc] at hd'
   rcases List.mem_append.1 hd' with h' | h'
   . exact hL.linked (h.inv.holds d' h') (h.links d' h')
   . rw [List.mem_singleton.1 h'];exact Linked.refl _
 . intro d' hd'
   rcases List.mem_append.1 hd' with h' | h'
   . exact h.news d' h'
   . rw [List.mem_singleton.1 h']
     obtain ⟨-,o1,o2,o3⟩:=h.news d h.mem
     have hf:=hL.fresh
     exact ⟨hN _ (by omega),stepped_in hL.pb hs1 hN o1,stepped_in hL.pt hs1 hN o2,stepped_in hL.pw hs1 hN o3⟩
end Go.Proofs.YtcfngdnmpogaoaaGreat
namespace Go.Proofs.YtcfngdnmpogaoaaGreat
open Go.RowKit
set_option maxHeartbeats 1600000
set_option maxRecDepth 20000
theorem info97:(Tryz.prog.info? 133).map (fun i=>(i.zero,i.size,i.bytes))=some (some (.pointer none),1,8):=by kernel_rfl
theorem hkeep_gen (bw hb:Nat) (ps hv vb vt vw:Value) (hs:List HoldD) (xs ts ws:List Value) (nw:Nat) (w:World) (h:WInv w bw ps hv hs)
 (hblk:w.heap[hb]?=some (.cells #[vb,vt,vw,.int .i64 0] 135 (0,0))) (hrow:Row w 5 1 vb xs) (hrt:Row w 26 1 vt ts) (hrw:Row w 70 7 vw ws) (hnw:ws.length=nw*7)
 (hB:∀ d ∈ hs,HoldIn (fun k=>k ≠ hb/\vb.ownBlock ≠ some k/\vt.ownBlock ≠ some k/\vw.ownBlock ≠ some k) d)
 (N:Nat->Prop) (hN1:N hb) (hN2:∀ k,vb.ownBlock=some k\/vt.ownBlock=some k\/vw.ownBlock=some k->N k) (hN3:∀ k,w.heap.size<=k->N k) (hl1:hs.length+4<=17592186044416) (hl2:xs.length+3<=140737488355328) (hl3:ts.length+3<=35184372088832) (hl4:nw+3<=1759218604441) :
 Calls Tryz.prog 59 #[.pointer (some ⟨bw,0,none⟩),.pointer (some ⟨hb,0,none⟩)] w fun e w'=>(∃ v,e=.returned v) /\
  ∃ hs' hv',hs'.length=4/\WInv w' bw ps hv' (hs++hs')/\Kept (fun k=>k=bw\/hv.ownBlock=some k\/k=hb\/vb.ownBlock=some k\/vt.ownBlock=some k\/vw.ownBlock=some k) w w'/\(∀ k,hv'.ownBlock=some k->hv.ownBlock=some k\/N k)/\∀ d ∈ hs',HoldIn N d:=by
 obtain ⟨i97,hi97,hz970,hz971,hz972⟩:=info_parts info97
 obtain ⟨c0,c1,fw,hbw⟩:=world_cells h.blk
 obtain ⟨d0,d1,d2,d3,fh,hbh⟩:=hold_cells hblk
 obtain ⟨ah,ch,hvh,-⟩:=h.row.len (by decide)
 rw [List.length_map,Nat.div_one] at hvh
 subst hvh
 have hne:¬ bw=hb:=fun e=>by have:=h.blk;rw [e,hblk] at this;simp at this
 have hne':¬ hb=bw:=fun e=>hne e.symm
 go_enter Tryz.func59,Tryz.ntmps59
 go_wp2_with fail
 obtain ⟨M,HM⟩:∃ M:Int,Hid ((hs.length:Int)+1=M):=⟨_,rfl⟩
 rw [HM.out]
 have hblk0:=put3 (y:=.int .i64 M) hblk
 have hrow0:=hrow.setCell ⟨hb,3,none⟩ (.int .i64 M) (hrow.ne_block hblk (by decide))
 have hrt0:=hrt.setCell ⟨hb,3,none⟩ (.int .i64 M) (hrt.ne_block hblk (by decide))
 have hrw0:=hrw.setCell ⟨hb,3,none⟩ (.int .i64 M) (hrw.ne_block hblk (by decide))
 obtain ⟨T,HT⟩:∃ T:Nat->Prop,Hid (T=fun k=>k=bw\/(Value.slice ah hs.length ch).ownBlock=some k\/k=hb\/(vb.ownBlock=some k\/vt.ownBlock=some k\/vw.ownBlock=some k)\/w.heap.size<=k):=⟨_,rfl⟩
 have hTb:Hid (T bw):=by show T bw;rw [HT.out];exact .inl rfl
 have hTv:Hid (∀ k,(Value.slice ah hs.length ch).ownBlock=some k->T k):=by intro k e;rw [HT.out];exact .inr (.inl e)
 have hTh:Hid (T hb):=by show T hb;rw [HT.out];exact .inr (.inr (.inl rfl))
 have hTr:Hid (∀ k,(vb.ownBlock=some k\/vt.ownBlock=some k\/vw.ownBlock=some k)->T k):=by intro k e;rw [HT.out];exact .inr (.inr (.inr (.inl e)))
 have hTn:Hid (∀ k,w.heap.size<=k->T k):=by intro k e;rw [HT.out];exact .inr (.inr (.inr (.inr e)))
 have hk0:Kept T w (w.setCell ⟨hb,3,none⟩ (.int .i64 M)):=(Kept.refl _ w).setCell _ _ (fun _=>hTh.out)
 have hk0':Kept (fun k=>k=hb) w (w.setCell ⟨hb,3,none⟩ (.int .i64 M)):=(Kept.refl _ w).setCell _ _ (fun _=>rfl)
 generalize w.setCell ⟨hb,3,none⟩ (.int .i64 M)=w0 at *
 refine (marks_gen hb M vb vt vw xs ts ws nw w0 hblk0 hrow0 hrt0 hrw0 (by omega) (by omega) (by omega) hnw).mono ?_
 rintro e W1 ⟨⟨v,rfl⟩,hrow1,hrt1,hrw1,hk1⟩
 have hblk1:=(hk1.block hb (by have:=hk0.size;omega) (fun e=>by
  rcases e with e | e | e
  . exact hrow0.ne_block hblk0 (by decide) e
  . exact hrt0.ne_block hblk0 (by decide) e
  . exact hrw0.ne_block hblk0 (by decide) e)).trans hblk0
 have hinv1:WInv W1 bw ps (.slice ah hs.length ch) hs:=by
  have hb0:=(hk0'.block bw hbw (by omega)).trans h.blk
  have hr0:=h.row.kept hk0' (fun k hk=>by rintro rfl;exact h.row.ne_block hblk (by decide) hk)
  refine ⟨(hk1.block bw (by have:=hk0.size;omega) (fun e=>?_)).trans hb0,hr0.kept hk1 (fun k hk e=>?_),fun d hd=>?_⟩
  . rcases e with e | e | e
    . exact hrow0.ne_block hb0 (by decide) e
    . exact hrt0.ne_block hb0 (by decide) e
    . exact hrw0.ne_block hb0 (by decide) e
  . rcases e with e | e | e
    . exact hr0.apart hrow0 (by decide) hk e
    . exact hr0.apart hrt0 (by decide) hk e
    . exact hr0.apart hrw0 (by decide) hk e
  obtain ⟨q0,q1,q2,q3⟩:=hB d hd
  have hd0:=(h.holds d hd).kept hk0' q0.1 (fun k hk=>(q1 k hk).1) (fun k hk=>(q2 k hk).1) (fun k hk=>(q3 k hk).1)
  have hno:∀ k,(k ≠ hb/\vb.ownBlock ≠ some k/\vt.ownBlock ≠ some k/\vw.ownBlock ≠ some k)->¬ (vb.ownBlock=some k\/vt.ownBlock=some k\/vw.ownBlock=some k):=fun k hk e=>by
   rcases e with e | e | e
   . exact hk.2.1 e
   . exact hk.2.2.1 e
   . exact hk.2.2.2 e
  exact hd0.kept hk1 (hno _ q0) (fun k hk=>hno k (q1 k hk)) (fun k hk=>hno k (q2 k hk)) (fun k hk=>hno k (q3 k hk))
 have hd1:Hold W1 ⟨hb,M,xs.length,ts.length,nw,vb,vt,vw⟩:=⟨hblk1,hrow1,hrt1,hrw1,by simp only;omega,by simp only;omega,by simp only;omega⟩
 have hkw1:Kept T w W1:=hk0.step hk1 (fun i _ e=>hTr.out i e)
 have hs0:=hk0.size
 have hs1:=hk1.size
 clear hk0 hk0' hblk0 hrow0 hrt0 hrw0 hk1 hrow1 hrt1 hrw1 d0 d1 d2 d3 fh c0 c1 fw hblk hrow hrt hrw
 obtain ⟨c0,c1,fw,hbw1⟩:=world_cells hinv1.blk
 have hr97:=hinv1.row
 have hln:(hs.map fun d=>Value.pointer (some ⟨d.hb,0,none⟩)).length=hs.length:=List.length_map ..
 generalize hptrs:(hs.map fun d=>Value.pointer (some ⟨d.hb,0,none⟩))=ptrs at *
 have Hptrs:=hid hptrs
 clear hptrs
 generalize hhv:Value.slice ah hs.length ch=hv0 at *
 have Hhv:=hid hhv
 clear hhv
 go_wp2_with (at_builtin;go_must (refine wpList_append _ rfl _ _ _ _ rfl 133 i97 (.pointer none) 1 8 Tryz.underlying82 hi97 hz970 hz971 hz972 rfl Nat.one_pos hv0 ptrs rfl (hr97.alloc _) (.slice (some ⟨W1.heap.size,0,none⟩) 1 1) 1 [.pointer (some ⟨hb,0,none⟩)] rfl ?hsrc Nat.one_pos ?h63 ?hby ?next))
 case hsrc=>exact Src.ofSlice _ Tryz.underlying82 ⟨W1.heap.size,0,none⟩ 1 1 _ rfl (one_new W1 _ _) (by simp [Value.oneCell'])
 case h63=>simp only [maxLen];omega
 case hby=>omega
 intro v1 w1 ha1
 rw [<- Hptrs.out] at ha1
 have hbb1:=App.other ha1 hinv1.row hinv1.blk (by decide)
 obtain ⟨e0,e1,fw1,hbw2⟩:=world_cells hbb1
 obtain ⟨g1,o1,n1,k1,hv1,-,-⟩:=ha1.row.shape (by simp)
 subst hv1
 clear c0 c1 fw
 go_wp2
 generalize Value.slice (some ⟨g1,o1,none⟩) n1 k1=v1 at *
 obtain ⟨p1,p2,p3⟩:=hinv1.put hd1 ha1
 have hK:KInv T N w (w1.setCell ⟨bw,1,none⟩ v1) bw ps hs (xs.length,ts.length,nw) 0 ⟨hb,M,xs.length,ts.length,nw,vb,vt,vw⟩ v1 [⟨hb,M,xs.length,ts.length,nw,vb,vt,vw⟩]:=by
  refine ⟨p1,rfl,by simp,hkw1.step p2 (fun i _ e=>by rcases e with e | e;(rw [e];exact hTb.out);exact hTv.out i e),stepped_in p3 (by omega) hTn.out hTv.out,⟨rfl,rfl,rfl⟩,fun k e=>hTr.out k (.inl e),fun k e=>hTr.out k (.inr (.inl e)),fun k e=>hTr.out k (.inr (.inr e)),?_,fun d' hd'=>by rw [List.mem_singleton.1 hd'];exact ⟨hN1,fun k e=>hN2 k (.inl e),fun k e=>hN2 k (.inr (.inl e)),fun k e=>hN2 k (.inr (.inr e))⟩⟩
  . intro d' hd'
    rcases List.mem_append.1 hd' with h' | h'
    . obtain ⟨q0,q1,q2,q3⟩:=hB d' h'
      have hh:=h.holds d' h'
      refine ⟨fun e=>?_,fun e=>?_,fun e=>?_⟩
      . simp only at e ⊢
        cases hvo:vb.ownBlock with
        | none=>
          rw [hvo] at e
          obtain ⟨r1,r2⟩:=hh.rb.none e
          have r3:=congrArg List.length r2
          rw [signs_len] at r3
          obtain ⟨r4,_⟩:=hd1.rb.none hvo
          simp only at r4
          simp at r3
          exact ⟨r1.trans r4.symm,by omega⟩
        | some k=>
          rw [hvo] at e
          exact absurd hvo (q1 k e).2.1
      . simp only at e ⊢
        cases hvo:vt.ownBlock with
        | none=>
          rw [hvo] at e
          obtain ⟨r1,r2⟩:=hh.rt.none e
          have r3:=congrArg List.length r2
          rw [tagsOf_len] at r3
          obtain ⟨r4,_⟩:=hd1.rt.none hvo
          simp only at r4
          simp at r3
          exact ⟨r1.trans r4.symm,by omega⟩
        | some k=>
          rw [hvo] at e
          exact absurd hvo (q2 k e).2.2.1
      . simp only at e ⊢
        cases hvo:vw.ownBlock with
        | none=>
          rw [hvo] at e
          obtain ⟨r1,r2⟩:=hh.rw_.none e
          have r3:=congrArg List.length r2
          rw [winOf_len] at r3
          obtain ⟨r4,_⟩:=hd1.rw_.none hvo
          simp only at r4
          simp at r3
          exact ⟨r1.trans r4.symm,by omega⟩
        | some k=>
          rw [hvo] at e
          exact absurd hvo (q3 k e).2.2.2
    . rw [List.mem_singleton.1 h'];exact Linked.refl _
 have HK:=hid hK
 clear hK p1 p2 p3 ha1 hbb1 e0 e1 fw1 hbw2
 generalize w1.setCell ⟨bw,1,none⟩ v1=W2 at *
 go_loopw [4,5] (fun gp c wr=>∃ (n:Nat) (d:HoldD) (hvn:Value) (hsn:List HoldD),n<=3/\c=.int .i64 (n:Int)/\gp=.pointer (some ⟨d.hb,0,none⟩)/\KInv T N w wr bw ps hs (xs.length,ts.length,nw) n d hvn hsn) (fun _ c _=>3 - (intOf c).toNat)
 case atStart=>exact ⟨0,_,_,_,by omega,rfl,rfl,HK.out⟩
 case round=>
  obtain ⟨n,d,hvn,hsn,hn,rfl,rfl,hKI⟩:=hrel
  clear HK hinv1 hd1 hkw1 hbw1 hr97 hblk1
  by_cases hn3:n < 3
  . have HK:=hid hKI
    have hdd:=hKI.inv.holds d (List.mem_append_right _ hKI.mem)
    obtain ⟨m1,m2,m3⟩:=hKI.nums
    obtain ⟨hb2,M2,nb2,nt2,nw2,vb2,vt2,vw2⟩:=d
    simp only at m1 m2 m3 ⊢
    have Hdd:=hid hdd
    have M1:=hid m1
    have M2':=hid m2
    have M3:=hid m3
    clear hKI hdd m1 m2 m3
    go_wp2_with fail
    refine (longer_any hb2 M2 nb2 nt2 nw2 vb2 vt2 vw2 wr Hdd.out (by rw [M1.out];omega) (by rw [M2'.out];omega) (by rw [M3.out];omega)).mono ?_
    rintro e W3 ⟨d1,rfl,hL⟩
    have hinv3:=HK.out.inv.longer Hdd.out hL HK.out.links
    have hm3:=HK.out.many
    have HL:=hid hL
    clear hL
    obtain ⟨c0,c1,fw,hbw3⟩:=world_cells hinv3.blk
    have hr97:=hinv3.row
    have hln:((hs++hsn).map fun d=>Value.pointer (some ⟨d.hb,0,none⟩)).length=hs.length+(n+1):=by rw [List.length_map,List.length_append,hm3]
    generalize hptrs:((hs++hsn).map fun d=>Value.pointer (some ⟨d.hb,0,none⟩))=ptrs at *
    have Hptrs:=hid hptrs
    clear hptrs
    go_wp2_with (at_builtin;go_must (refine wpList_append _ rfl _ _ _ _ rfl 133 i97 (.pointer none) 1 8 Tryz.underlying82 hi97 hz970 hz971 hz972 rfl Nat.one_pos hvn ptrs rfl (hr97.alloc _) (.slice (some ⟨W3.heap.size,0,none⟩) 1 1) 1 [.pointer (some ⟨d1.hb,0,none⟩)] rfl ?hsrc2 Nat.one_pos ?h632 ?hby2 ?next2))
    case hsrc2=>exact Src.ofSlice _ Tryz.underlying82 ⟨W3.heap.size,0,none⟩ 1 1 _ rfl (one_new W3 _ _) (by simp [Value.oneCell'])
    case h632=>simp only [maxLen];omega
    case hby2=>omega
    intro v4 w4 ha4
    rw [<- Hptrs.out] at ha4
    have hbb4:=App.other ha4 hinv3.row hinv3.blk (by decide)
    obtain ⟨e0,e1,fw1,hbw4⟩:=world_cells hbb4
    obtain ⟨g1,o1,n1,k1,hv1,-,-⟩:=ha4.row.shape (by simp)
    subst hv1
    clear c0 c1 fw
    go_wp2
    generalize Value.slice (some ⟨g1,o1,none⟩) n1 k1=v4 at *
    have hK2:=HK.out.step hN3 hTn.out hTb.out HL.out ha4
    go_roundw
    case rel=>exact ⟨n+1,d1,v4,hsn++[d1],by omega,by go_num,rfl,hK2⟩
    case measure=>simp [intOf];omega
  . have hn':n=3:=by omega
    subst hn'
    have HK:=hid hKI
    clear hKI
    go_wp2
    go_end0
    refine ⟨⟨_,rfl⟩,hsn,hvn,HK.out.many,HK.out.inv,?_,?_,HK.out.news⟩
    rotate_left
    . intro k hk
      have hTk:=HK.out.hvb k hk
      rw [HT.out] at hTk
      rcases hTk with e | e | e | e | e
      . rw [e] at hk;exact absurd hk (HK.out.inv.row.ne_block HK.out.inv.blk (by decide))
      . exact .inl (by rw [Hhv.out];exact e)
      . exact .inr (by rw [e];exact hN1)
      . exact .inr (hN2 k e)
      . exact .inr (hN3 k e)
    have hkk:=HK.out.kept
    rw [HT.out] at hkk
    refine hkk.mono (fun k hk e=>?_)
    rcases e with e | e | e | e | e
    . exact .inl e
    . exact .inr (.inl (by rw [Hhv.out];exact e))
    . exact .inr (.inr (.inl e))
    . exact .inr (.inr (.inr e))
    . omega
theorem hkeep_any (bw hb:Nat) (ps hv vb:Value) (hs:List HoldD) (xs:List Value) (B:Nat) (w:World) (h:WInv w bw ps hv hs)
 (hblk:w.heap[hb]?=some (.cells #[vb,.slice none 0 0,.slice none 0 0,.int .i64 0] 135 (0,0))) (hrow:Row w 5 1 vb xs)
 (hB:∀ d ∈ hs,d.hb < B/\(∀ k,d.vb.ownBlock=some k->k < B)/\(∀ k,d.vt.ownBlock=some k->k < B)/\(∀ k,d.vw.ownBlock=some k->k < B))
 (hBh:B<=hb) (hBv:∀ k,vb.ownBlock=some k->B<=k) (N:Nat->Prop) (hN1:N hb) (hN2:∀ k,vb.ownBlock=some k->N k) (hN3:∀ k,w.heap.size<=k->N k) (hl1:hs.length+4<=17592186044416) (hl2:xs.length+3<=140737488355328) :
 Calls Tryz.prog 59 #[.pointer (some ⟨bw,0,none⟩),.pointer (some ⟨hb,0,none⟩)] w fun e w'=>(∃ v,e=.returned v) /\
  ∃ hs' hv',hs'.length=4/\WInv w' bw ps hv' (hs++hs')/\Kept (fun k=>k=bw\/hv.ownBlock=some k\/k=hb\/vb.ownBlock=some k) w w'/\(∀ k,hv'.ownBlock=some k->hv.ownBlock=some k\/N k)/\∀ d ∈ hs',HoldIn N d:=by
 have hno:∀ k,k < B->k ≠ hb/\vb.ownBlock ≠ some k/\(Value.slice none 0 0).ownBlock ≠ some k/\(Value.slice none 0 0).ownBlock ≠ some k:=fun k hk=>⟨by omega,fun e=>by have:=hBv k e;omega,by simp [Value.ownBlock],by simp [Value.ownBlock]⟩
 refine (hkeep_gen bw hb ps hv vb _ _ hs xs [] [] 0 w h hblk hrow (Row.nil _ _ _) (Row.nil _ _ _) (by simp) (fun d hd=>?_) N hN1 (fun k hk=>?_) hN3 hl1 hl2 (by simp) (by omega)).mono ?_
 . obtain ⟨q0,q1,q2,q3⟩:=hB d hd
   exact ⟨hno _ q0,fun k hk=>hno k (q1 k hk),fun k hk=>hno k (q2 k hk),fun k hk=>hno k (q3 k hk)⟩
 . rcases hk with hk | hk | hk
   . exact hN2 k hk
   . simp [Value.ownBlock] at hk
   . simp [Value.ownBlock] at hk
 . rintro e w' ⟨h1,hs',hv',h2,h3,h4,h5,h6⟩
   refine ⟨h1,hs',hv',h2,h3,h4.mono (fun k _ hk=>?_),h5,h6⟩
   rcases hk with hk | hk | hk | hk | hk | hk
   . exact .inl hk
   . exact .inr (.inl hk)
   . exact .inr (.inr (.inl hk))
   . exact .inr (.inr (.inr hk))
   . simp [Value.ownBlock] at hk
   . simp [Value.ownBlock] at hk
end Go.Proofs.YtcfngdnmpogaoaaGreat
namespace Go.Proofs.YtcfngdnmpogaoaaGreat
open Go.RowKit
set_option maxHeartbeats 1600000
theorem WInv.below {w W:World} {bw:Nat} {ps hv:Value} {hs:List HoldD} (h:WInv w bw ps hv hs) (hb:Below w.heap.size w W):WInv W bw ps hv hs:=by
 have hk:=Kept.ofBelow hb (fun _=>False)
 exact ⟨(hk.block bw (Array.getElem?_eq_some_iff.1 h.blk).1 id).trans h.blk,h.row.kept hk (fun _ _=>id),fun d hd=>(h.holds d hd).kept hk id (fun _ _=>id) (fun _ _=>id) (fun _ _=>id)⟩
theorem looks_any (bw:Nat) (ps hv:Value) (hs:List HoldD) (w:World) (h:WInv w bw ps hv hs) (hl:hs.length<=9223372036854775807) :
 Calls Tryz.prog 33 #[.pointer (some ⟨bw,0,none⟩)] w fun e w'=>e=.returned (.bool true)/\Below w.heap.size w w':=by
 obtain ⟨ah,ch,hvh,-⟩:=h.row.len (by decide)
 rw [List.length_map,Nat.div_one] at hvh
 subst hvh
 have H:=hid h
 clear h
 go_enter Tryz.func33,Tryz.ntmps33
 go_wp2
 go_loopw [3] (fun i wr=>∃ k:Nat,k<=hs.length/\i=.int .i64 (k:Int)/\Below w.heap.size w wr) (fun i _=>hs.length - (intOf i).toNat)
 case atStart=>exact ⟨0,Nat.zero_le _,rfl,Below.refl _ _⟩
 case round=>
  obtain ⟨k,hk,rfl,hbw⟩:=hrel
  have hinv:=H.out.below hbw
  obtain ⟨c0,c1,fw,hbw1⟩:=world_cells hinv.blk
  have Hbw:=hid hbw
  clear hbw
  by_cases hkn:k < hs.length
  . obtain ⟨g,off,rfl⟩:=slice_some hinv.row (by omega)
    have hcell:=hinv.row.cell k (by omega)
    rw [List.getElem?_map,List.getElem?_eq_getElem hkn,Option.map_some] at hcell
    have hd:=hinv.holds hs[k] (List.getElem_mem hkn)
    have Hd:=hid hd
    clear hd hinv
    generalize hs[k]=d at *
    go_wp2_with fail
    refine (marked_any d wr Hd.out).mono ?_
    rintro e w' ⟨rfl,hb'⟩
    go_wp2
    go_roundw
    case rel=>exact ⟨k+1,by omega,by go_num,Hbw.out.trans (hb'.mono Hbw.out.size)⟩
    case measure=>simp [intOf];omega
  . clear hinv
    go_wp2
    go_ret
    exact ⟨rfl,Hbw.out⟩
end Go.Proofs.YtcfngdnmpogaoaaGreat
namespace Go.Proofs.YtcfngdnmpogaoaaGreat
open Go.RowKit
set_option maxHeartbeats 1600000
set_option maxRecDepth 20000
structure OpD where
 kind:Int
 n:Int
 source:Int
 s:ByteArray
 ik:Int
 ikey:ByteArray
 itime:Int
 ivalue:Int
 itag:Nat
 c0:Int
 c1:Int
 c2:Int
 c3:Int
def OpD.cells (o:OpD):Array Value:=#[.int .i64 o.kind,.int .i64 o.n,.int .i64 o.source,.string o.s,.int .i64 o.ik,.string o.ikey,.int .i64 o.itime,.int .i64 o.ivalue,.int .u32 (o.itag:Int),.int .i64 o.c0,.int .i64 o.c1,.int .i64 o.c2,.int .i64 o.c3]
structure OpD.Fits (o:OpD):Prop where
 s:o.s.size+11<=140737488355328
 key:o.ikey.size<=9223372036854775807
 tag:o.itag < 4294967296
theorem rframe_yes (kind:Int) (key:ByteArray) (time value:Int) (tag:Nat) (w:World) (hk:key.size<=9223372036854775807) (h:isItemB kind key value tag=true) (ht:tag < 4294967296) :
 Calls Tryz.prog 31 #[.agg #[.int .i64 kind,.string key,.int .i64 time,.int .i64 value,.int .u32 (tag:Int)]] w fun e w'=>
  e=.returned (.tuple #[.string (str (frameBytes kind key time value tag)),.int .i64 0])/\Below w.heap.size w w':=by
 rcases isItemB_cases h with ⟨rfl,_⟩ | ⟨rfl,h1,h8⟩
 . exact rframe_mark key time value tag w hk h ht
 . exact rframe_event key time value tag w h1 h8 h ht
theorem WInv.bound {w:World} {bw:Nat} {ps hv:Value} {hs:List HoldD} (h:WInv w bw ps hv hs):∀ d ∈ hs,d.hb < w.heap.size/\(∀ k,d.vb.ownBlock=some k->k < w.heap.size)/\(∀ k,d.vt.ownBlock=some k->k < w.heap.size)/\(∀ k,d.vw.ownBlock=some k->k < w.heap.size):=fun d hd=>
 ⟨(Array.getElem?_eq_some_iff.1 (h.holds d hd).blk).1,fun _ hk=>((h.holds d hd).rb.blk_lt hk).1,fun _ hk=>((h.holds d hd).rt.blk_lt hk).1,fun _ hk=>((h.holds d hd).rw_.blk_lt hk).1⟩
def StepPost (bw:Nat) (ps hv:Value) (hs:List HoldD) (w:World) (e:Ending) (w':World):Prop:=
 e=.returned (.bool true)/\∃ hs' hv',hs'.length=4/\WInv w' bw ps hv' (hs++hs')/\Kept (fun k=>k=bw\/hv.ownBlock=some k) w w'/\(∀ k,hv'.ownBlock=some k->hv.ownBlock=some k\/w.heap.size<=k)/\∀ d ∈ hs',HoldIn (fun k=>w.heap.size<=k) d
theorem conv_nil (W:World):(convert 30 9 (.slice none 0 0)).run Tryz.prog W=.ok (.string ⟨#[]⟩) W:=by
 rw [run_convert_bytes_string (P:=Tryz.prog) W 30 9 5 none 0 0 Tryz.underlying30 Tryz.underlying5 Tryz.underlying9]
 simp [Conv.bytesToString]
 rfl
theorem op_box {w W:World} {o:OpD} {B:Nat} (hb:Below B (w.alloc (.cells o.cells 79)) W) (hB:w.heap.size < B) (j:Nat):W.cell? ⟨w.heap.size,j,none⟩=o.cells[j]?:=by
 rw [hb.cell (by exact hB),cell_of_row _ _ _ _ _ _ (heap_alloc_new w _)]
theorem keep_step (bw hb:Nat) (ps hv vb:Value) (hs:List HoldD) (xs:List Value) (w W:World) (h:WInv w bw ps hv hs) (hbl:Below w.heap.size w W)
 (hblk:W.heap[hb]?=some (.cells #[vb,.slice none 0 0,.slice none 0 0,.int .i64 0] 135 (0,0))) (hrow:Row W 5 1 vb xs)
 (hBh:w.heap.size<=hb) (hBv:∀ k,vb.ownBlock=some k->w.heap.size<=k) (hl1:hs.length+4<=17592186044416) (hl2:xs.length+3<=140737488355328) :
 Calls Tryz.prog 59 #[.pointer (some ⟨bw,0,none⟩),.pointer (some ⟨hb,0,none⟩)] W fun e w'=>(∃ v,e=.returned v) /\
  ∃ hs' hv',hs'.length=4/\WInv w' bw ps hv' (hs++hs')/\Kept (fun k=>k=bw\/hv.ownBlock=some k) w w'/\Kept (fun k=>k=bw\/hv.ownBlock=some k\/k=hb\/vb.ownBlock=some k) W w'/\(∀ k,hv'.ownBlock=some k->hv.ownBlock=some k\/w.heap.size<=k)/\∀ d ∈ hs',HoldIn (fun k=>w.heap.size<=k) d:=by
 refine (hkeep_any bw hb ps hv vb hs xs w.heap.size W (h.below hbl) hblk hrow h.bound hBh hBv (fun k=>w.heap.size<=k) hBh hBv (fun k hk=>by have:=hbl.size;omega) hl1 hl2).mono ?_
 rintro e w' ⟨hv',hs',hvn,h4,hW,hk,hq⟩
 refine ⟨hv',hs',hvn,h4,hW,(Kept.ofBelow hbl _).step hk ?_,hk,hq⟩
 intro i hi
 rintro (e | e | e | e)
 . exact .inl e
 . exact .inr e
 . omega
 . have:=hBv i e;omega
theorem free_frame_no (bw:Nat) (ps hv:Value) (hs:List HoldD) (o:OpD) (w:World) (h:WInv w bw ps hv hs) (hf:o.Fits) (hk:o.kind=1) (hl:hs.length+4<=17592186044416) (hi:isItemB o.ik o.ikey o.ivalue o.itag=false) :
 Calls Tryz.prog 53 #[.pointer (some ⟨bw,0,none⟩),.agg o.cells] w (StepPost bw ps hv hs w):=by
 have H:=hid h
 have HB:Hid (∀ W,Below (w.heap.size+1) (w.alloc (.cells o.cells 79)) W->∀ j,W.cell? ⟨w.heap.size,j,none⟩=o.cells[j]?):=fun W hW j=>op_box hW (by omega) j
 clear h
 obtain ⟨kind,n,source,s,ik,ikey,itime,ivalue,itag,q0,q1,q2,q3⟩:=o
 obtain ⟨hfs,hfk,hft⟩:=hf
 simp only [OpD.cells] at *
 subst hk
 have hcn:=conv_nil
 go_enter Tryz.func53,Tryz.ntmps53
 go_wp2_with fail
 refine (frame_no ik ikey itime ivalue itag _ hfk hi).mono ?_
 rintro e W1 ⟨rfl,hb1⟩
 have hb1:Below (w.heap.size+1) (w.alloc (.cells #[.int .i64 1,.int .i64 n,.int .i64 source,.string s,.int .i64 ik,.string ikey,.int .i64 itime,.int .i64 ivalue,.int .u32 (itag:Int),.int .i64 q0,.int .i64 q1,.int .i64 q2,.int .i64 q3] 79)) W1:=hb1.mono (by simp)
 have hc:=HB.out W1 hb1
 have p4:=hc 4
 have p5:=hc 5
 have p6:=hc 6
 have p7:=hc 7
 have p8:=hc 8
 simp only [List.getElem?_toArray,List.getElem?_cons_zero,List.getElem?_cons_succ] at p4 p5 p6 p7 p8
 clear hc
 go_wp2_with fail
 refine (rframe_no ik ikey itime ivalue itag _ hfk hi).mono ?_
 rintro e W2 ⟨rfl,hb2⟩
 have hs1:=hb1.size
 have hs2:=hb2.size
 simp only [World.size_alloc] at hs1
 have hbw2:Below w.heap.size w W2:=(((Below.refl _ w).alloc (Nat.le_refl _) _).trans (hb1.mono (by omega))).trans (hb2.mono (by omega))
 clear p4 p5 p6 p7 p8 hb1 hb2
 go_wp2_with fail
 refine (keep_step bw W2.heap.size ps hv (.slice none 0 0) hs [] w _ H.out (hbw2.alloc (by omega) _) (heap_alloc_new W2 _) (Row.nil _ _ _) (by omega) (by simp [Value.ownBlock]) hl (by simp)).mono ?_
 rintro e W3 ⟨⟨v,rfl⟩,hs',hv',h4,hW3,hk3,-,hq⟩
 go_wp2
 go_ret
 exact ⟨rfl,hs',hv',h4,hW3,hk3,hq⟩
theorem free_frame_yes (bw:Nat) (ps hv:Value) (hs:List HoldD) (o:OpD) (w:World) (h:WInv w bw ps hv hs) (hf:o.Fits) (hk:o.kind=1) (hl:hs.length+4<=17592186044416) (hi:isItemB o.ik o.ikey o.ivalue o.itag=true) :
 Calls Tryz.prog 53 #[.pointer (some ⟨bw,0,none⟩),.agg o.cells] w (StepPost bw ps hv hs w):=by
 have H:=hid h
 have HB:Hid (∀ W,Below (w.heap.size+1) (w.alloc (.cells o.cells 79)) W->∀ j,W.cell? ⟨w.heap.size,j,none⟩=o.cells[j]?):=fun W hW j=>op_box hW (by omega) j
 clear h
 obtain ⟨kind,n,source,s,ik,ikey,itime,ivalue,itag,q0,q1,q2,q3⟩:=o
 obtain ⟨hfs,hfk,hft⟩:=hf
 simp only [OpD.cells] at *
 subst hk
 have hbl:=itemBody_len (time:=itime) hi
 have hfl:(frameBytes ik ikey itime ivalue itag).length<=33/\frameBytes ik ikey itime ivalue itag ≠ []:=by
  unfold frameBytes;simp [low_length];omega
 go_enter Tryz.func53,Tryz.ntmps53
 go_wp2_with fail
 refine (frame_yes ik ikey itime ivalue itag _ hfk hi hft).mono ?_
 rintro e W1 ⟨v1,rfl,hr1,hg1,hb1⟩
 have hb1:Below (w.heap.size+1) (w.alloc (.cells #[.int .i64 1,.int .i64 n,.int .i64 source,.string s,.int .i64 ik,.string ikey,.int .i64 itime,.int .i64 ivalue,.int .u32 (itag:Int),.int .i64 q0,.int .i64 q1,.int .i64 q2,.int .i64 q3] 79)) W1:=hb1.mono (by simp)
 have hc:=HB.out W1 hb1
 have p4:=hc 4
 have p5:=hc 5
 have p6:=hc 6
 have p7:=hc 7
 have p8:=hc 8
 simp only [List.getElem?_toArray,List.getElem?_cons_zero,List.getElem?_cons_succ] at p4 p5 p6 p7 p8
 clear hc
 go_wp2_with fail
 refine (rframe_yes ik ikey itime ivalue itag _ hfk hi hft).mono ?_
 rintro e W2 ⟨rfl,hb2⟩
 have hs1:=hb1.size
 have hs2:=hb2.size
 simp only [World.size_alloc] at hs1 hg1
 have hbw2:Below w.heap.size w W2:=(((Below.refl _ w).alloc (Nat.le_refl _) _).trans (hb1.mono (by omega))).trans (hb2.mono (by omega))
 have hr2:=hr1.below hb2 (fun k hk=>(hr1.blk_lt hk).1)
 clear p4 p5 p6 p7 p8 hb1 hb2 hr1
 generalize frameBytes ik ikey itime ivalue itag=fb at *
 obtain ⟨hfl1,hfl2⟩:=hfl
 obtain ⟨g,off,cap,rfl,hcv⟩:=conv_row hr2 hfl2
 have hg1:=hg1 g rfl
 go_wp2_with fail
 refine (keep_step bw W2.heap.size ps hv (.slice (some ⟨g,off,none⟩) fb.length cap) hs (fb.map byteV) w _ H.out (hbw2.alloc (by omega) _) (heap_alloc_new W2 _) (hr2.alloc _) (by omega) (by intro k hk;simp [Value.ownBlock] at hk;omega) hl (by rw [List.length_map];omega)).mono ?_
 rintro e W3 ⟨⟨v,rfl⟩,hs',hv',h4,hW3,hk3,-,hq⟩
 go_wp2
 go_ret
 exact ⟨rfl,hs',hv',h4,hW3,hk3,hq⟩
end Go.Proofs.YtcfngdnmpogaoaaGreat
