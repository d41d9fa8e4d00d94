import Derived.Test.YtcfngdnmpogaoaaGreatTkU18
import Derived.Test.YtcfngdnmpogaoaaGreatTkU21
import Derived.Test.YtcfngdnmpogaoaaGreatTkU24
namespace Go.Proofs.YtcfngdnmpogaoaaGreat
open Go.RowKit
set_option maxHeartbeats 6400000
set_option maxRecDepth 20000
def RCells.addTaken (r:RCells) (v:Value):RCells:={ r with events:=v,n:={ r.n with taken:=wrap64 (r.n.taken+1) } }
def RCells.takenN (r:RCells):RCells:={ r with n:={ r.n with taken:=wrap64 (r.n.taken+1) } }
theorem info28:(Tryz.prog.info? 28).map (fun i=>(i.zero,i.size,i.bytes))=some (some (.agg #[.int .i64 0,.string ⟨#[]⟩,.int .i64 0,.int .i64 0,.int .u32 0]),5,48):=by kernel_rfl
theorem item_src (w:World) (e:Ev):Src Tryz.prog 5 49 (.slice (some ⟨w.heap.size,0,none⟩) 1 1) 1 (evCells e) (w.alloc (.cells #[.int .i64 1,.string e.key,.int .i64 e.t,.int .i64 e.v,.int .u32 (e.tag:Int)] 28)):=
 Src.ofSlice _ Tryz.underlying49 ⟨w.heap.size,0,none⟩ 1 1 _ rfl (fun j u hu=>by
  rw [Addr.add_lit,cell_of_row _ _ _ _ _ _ (heap_alloc_new w _)]
  rw [Nat.zero_add];simpa [evCells] using hu) (fun u hu=>by simp only [evCells,List.mem_cons,List.not_mem_nil,or_false] at hu;rcases hu with rfl | rfl | rfl | rfl | rfl <;> rfl)
theorem ritem_taken_of (g n:Nat) (r:RCells) (s:RSrc) (E:List Ev) (e:Ev) (w:World) (h:REv w g r E) (hs:r.src[n]?=some s) (hE:E.length < 200000) (hev:∀ x ∈ E,evOk x) (hc1:1<=r.slide) (hc2:r.slide<=r.size) (hc3:r.size<=1099511627776) (hlt1:0<=r.late) (hlt2:r.late<=1099511627776) (he:evOk e) (hl:(r.lined && decide (e.t < r.line))=false)
 (hno:isGoF r.size r.slide r.line r.lined E e.key=true\/((goKeys r.size r.slide r.line r.lined E).length:Int) < r.keys) (Q:World->Prop)
 (hq:∀ W ev,REv W g ((r.addTaken ev).setSrc n (rRaise (e.t - r.late) s)) (E++[e])->Kept (fun k=>k=g\/r.events.ownBlock=some k) w W->(∀ k,ev.ownBlock=some k->r.events.ownBlock=some k\/w.heap.size<=k)->Calls Tryz.prog 80 #[.pointer (some ⟨g,0,none⟩)] W fun en w'=>en=.returned (.tuple #[])/\Q w') :
 Calls Tryz.prog 81 #[.pointer (some ⟨g,0,none⟩),.int .i64 n,evItem e] w fun en w'=>en=.returned (.tuple #[])/\Q w':=by
 obtain ⟨i,hi,hz0,hz1,hz2⟩:=info_parts info28
 unfold evItem itemV
 have H:=hid h
 have HQ:=hid hq
 have hglt:=h.rf.lt
 have hn8:n < 8:=by have:=(List.getElem?_eq_some_iff.1 hs).1;have:=h.rf.len;omega
 have hb0:Below w.heap.size w (w.alloc (.cells #[.int .i64 1,.string e.key,.int .i64 e.t,.int .i64 e.v,.int .u32 (e.tag:Int)] 28)):=(Below.refl _ w).alloc (Nat.le_refl _) _
 have hg:=going_any g r E e.key _ (h.below hb0) (by omega) hev hc1 hc2 hc3
 have hbx:=heap_alloc_new w (.cells #[.int .i64 1,.string e.key,.int .i64 e.t,.int .i64 e.v,.int .u32 (e.tag:Int)] 28)
 have hsz:w.heap.size < (w.alloc (.cells #[.int .i64 1,.string e.key,.int .i64 e.t,.int .i64 e.v,.int .u32 (e.tag:Int)] 28)).heap.size:=by simp
 obtain ⟨-,hlo,hhi⟩:=he
 have hlo':¬ e.t < -2305843009213693952:=by omega
 have hhi':¬ 2305843009213693952 < e.t:=by omega
 clear h hev hq
 go_enter Tryz.func81,Tryz.ntmps81
 go_wp2_with fail
 refine hg.mono ?_
 rintro en W1 ⟨rfl,hB1⟩
 have hb1:Below w.heap.size w W1:=hb0.trans (hB1.mono (by omega))
 have hbx1:W1.heap[w.heap.size]?=some (.cells #[.int .i64 1,.string e.key,.int .i64 e.t,.int .i64 e.v,.int .u32 (e.tag:Int)] 28 (0,0)):=(hB1.block _ hsz).trans hbx
 have hrv:=H.out.below hb1
 have c45:W1.cell? ⟨g,45,none⟩=some (.bool r.lined):=hrv.rf.tailAt 1 rfl
 have c46:W1.cell? ⟨g,46,none⟩=some (.int .i64 r.line):=hrv.rf.tailAt 2 rfl
 have HRv:=hid hrv
 have HIT:=hid hbx1
 obtain ⟨d0,d1,d2,d3,d4⟩:=itemAt hbx1
 have HgE:Hid (r.events.ownBlock ≠ some g):=fun x=>(H.out.ev.cb x).ne (Cb.of H.out.rf.blk) (by decide) rfl
 have HBE:Hid (r.events.ownBlock ≠ some w.heap.size):=fun x=>by have:=(H.out.ev.blk_lt x).1;omega
 have HK1:Hid (Kept (fun k=>k=g\/r.events.ownBlock=some k) w W1):=Kept.ofBelow hb1 _
 have hBg:w.heap.size ≠ g:=by omega
 obtain ⟨B,HB⟩:∃ B,Hid (w.heap.size=B):=⟨_,rfl⟩
 rw [HB.out] at HIT d0 d1 d2 d3 d4 hBg HBE ⊢
 have HBw:Hid (B < W1.heap.size):=(Array.getElem?_eq_some_iff.1 HIT.out).1
 clear hb0 hbx hsz hg hB1 hb1 hbx1 hrv
 generalize isGoF r.size r.slide r.line r.lined E e.key=is at *
 generalize ((goKeys r.size r.slide r.line r.lined E).length:Int)=many at *
 go_upto_region 12 with fail
 go_cut [74] from 75 to 87 (fun s74 wx=>s74=.bool false/\∃ m,wx=W1.drewN m)
 case first=>
  obtain ⟨ln,hln⟩:∃ z,r.lined=z:=⟨_,rfl⟩
  rw [hln] at c45 hl
  clear hln
  cases ln with
  | false=>
    clear hl
    go_quiet (fail)
    go_wp2
    go_meet
    exact ⟨rfl,_,rfl⟩
  | true=>
    have hnl:¬ e.t < r.line:=by simpa using hl
    clear hl
    go_quiet (fail)
    go_wp2
    go_meet
    exact ⟨rfl,_,rfl⟩
 case rest=>
 obtain ⟨rfl,m,rfl⟩:=hcut
 have HR2:Hid (REv (W1.drewN m) g r E):=HRv.out.below (below_drewN (Below.refl _ W1) _)
 have HK2:Hid (Kept (fun k=>k=g\/r.events.ownBlock=some k) w (W1.drewN m)):=HK1.out.drewN _
 have HIT2:Hid ((W1.drewN m).heap[B]?=some (.cells #[.int .i64 1,.string e.key,.int .i64 e.t,.int .i64 e.v,.int .u32 (e.tag:Int)] 28 (0,0))):=by show _=_;simpa using HIT.out
 clear c45 c46 d0 d1 d2 d3 d4 HRv HK1 HIT HBw
 generalize W1.drewN m=W2 at *
 have k3:W2.cell? ⟨g,3,none⟩=some (.int .i64 r.keys):=HR2.out.rf.headAt 3 rfl
 have c48:W2.cell? ⟨g,48,none⟩=some (.int .i64 r.n.taken):=HR2.out.rf.tailAt 4 rfl
 have fz:∀ j,W2.frozen? ⟨g,j,none⟩=false:=HR2.out.rf.frozen
 go_upto_region 14 with fail
 go_cut [97] from 98 to 108 (fun s97 wx=>s97=.bool false/\W2=wx)
 case first=>
  cases is with
  | true=>
    go_wp2_with fail
    go_meet
    exact ⟨rfl,rfl⟩
  | false=>
    have hm:¬ r.keys<=many:=by
     rcases hno with hh | hh
     . cases hh
     . omega
    go_wp2_with fail
    go_meet
    exact ⟨rfl,rfl⟩
 case rest=>
 obtain ⟨rfl,rfl⟩:=hcut
 have HR3:Hid (REv (W2.setCell ⟨g,48,none⟩ (.int .i64 (wrap64 (r.n.taken+1)))) g r.takenN E):=⟨HR2.out.rf.putTail 4 _ rfl rfl rfl,HR2.out.ev.setCell _ _ (fun hh=>HgE.out hh)⟩
 have HK3:Hid (Kept (fun k=>k=g\/r.events.ownBlock=some k) w (W2.setCell ⟨g,48,none⟩ (.int .i64 (wrap64 (r.n.taken+1))))):=HK2.out.setCell ⟨g,48,none⟩ _ (fun _=>.inl rfl)
 have HIT3:Hid ((W2.setCell ⟨g,48,none⟩ (.int .i64 (wrap64 (r.n.taken+1)))).heap[B]?=some (.cells #[.int .i64 1,.string e.key,.int .i64 e.t,.int .i64 e.v,.int .u32 (e.tag:Int)] 28 (0,0))):=by
  show _=_
  rw [heap_setCell_other _ _ _ _ (by simpa using hBg)];exact HIT2.out
 go_upto_region 3 with fail
 clear HR2 HK2 HIT2 k3 c48 fz
 generalize W2.setCell ⟨g,48,none⟩ (.int .i64 (wrap64 (r.n.taken+1)))=W3 at *
 obtain ⟨ea,ec,hevs⟩:=HR3.out.shape
 have hevs:r.events=.slice ea E.length ec:=hevs
 have c44:W3.cell? ⟨g,44,none⟩=some (.slice ea E.length ec):=by rw [<- hevs];exact HR3.out.rf.tailAt 0 rfl
 have fz:∀ j,W3.frozen? ⟨g,j,none⟩=false:=HR3.out.rf.frozen
 have hrowE:Row W3 28 5 (.slice ea E.length ec) (E.flatMap evCells):=by rw [<- hevs];exact HR3.out.ev
 have HrowE:=hid hrowE
 have hlenE:(E.flatMap evCells).length=5*E.length:=evFlat_len E
 obtain ⟨d0,d1,d2,d3,d4⟩:=itemAt HIT3.out
 clear hrowE
 have hgne1:(Value.slice ea E.length ec).ownBlock ≠ some g:=by rw [<- hevs];exact HgE.out
 have hBne1:(Value.slice ea E.length ec).ownBlock ≠ some B:=by rw [<- hevs];exact HBE.out
 have hgw3:g < W3.heap.size:=HR3.out.rf.lt
 have hBw3:B < W3.heap.size:=(Array.getElem?_eq_some_iff.1 HIT3.out).1
 go_region_law (first
  | (refine step_append rfl _ _ _ _ rfl 28 i (.agg #[.int .i64 0,.string ⟨#[]⟩,.int .i64 0,.int .i64 0,.int .u32 0]) 5 48 Tryz.underlying49 hi hz0 hz1 hz2 rfl (by decide) (.slice ea E.length ec) (E.flatMap evCells) rfl (HrowE.out.below ((Below.refl W3.heap.size W3).drew.alloc (Nat.le_refl _) (.cells #[.int .i64 1,.string e.key,.int .i64 e.t,.int .i64 e.v,.int .u32 (e.tag:Int)] 28)) (fun k hk=>(HrowE.out.blk_lt hk).1)) (.slice (some ⟨W3.heap.size,0,none⟩) 1 1) 1 (evCells e) rfl ?_ Nat.one_pos ?_ ?_ ?_;exact item_src W3.drew e;(simp only [maxLen];rw [hlenE];omega);(rw [hlenE];omega);intro ev w2 ha;have kA:Kept (fun b=>(Value.slice ea E.length ec).ownBlock=some b) W3 w2:=(((Kept.refl _ W3).drew.alloc _).step (Kept.ofGrown ha.grown) (fun _ _ h=>h));have hevo:∀ b,ev.ownBlock=some b->(Value.slice ea E.length ec).ownBlock=some b\/W3.heap.size<=b:=(fun b hb=>by rcases ha.step with ⟨h1,_⟩ | ⟨h1,_⟩;(left;rw [<- h1];exact hb);(right;rw [h1] at hb;simp only [Option.some.injEq] at hb;simp at hb;omega));have hrow:=ha.row;obtain ⟨vg,vo,vn,vc,hgs,-,-⟩:=hrow.shape (by simp [evCells]);subst hgs;have hg2:w2.heap[g]?=W3.heap[g]?:=kA.block g hgw3 hgne1;have e44:w2.cell? ⟨g,44,none⟩=some (.slice ea E.length ec):=(by rw [<- c44];simp only [World.cell?,hg2]);have ef:∀ j,w2.frozen? ⟨g,j,none⟩=false:=fun j=>(by rw [<- fz j];simp only [World.frozen?,hg2])))
 all_goals
  have hWs:w.heap.size<=W3.heap.size:=HK3.out.size
  have hfin:REv (w2.setCell ⟨g,44,none⟩ (.slice (some ⟨vg,vo,none⟩) vn vc)) g (r.addTaken (.slice (some ⟨vg,vo,none⟩) vn vc)) (E++[e]):=by
   refine ⟨(HR3.out.rf.congr hg2).putTail 0 _ rfl rfl rfl,?_⟩
   show Row _ 28 5 (.slice (some ⟨vg,vo,none⟩) vn vc) _
   rw [List.flatMap_append]
   have hr2:Row w2 28 5 (.slice (some ⟨vg,vo,none⟩) vn vc) (E.flatMap evCells++[e].flatMap evCells):=by simpa using hrow
   refine hr2.setCell _ _ (fun hh=>?_)
   rcases hevo g hh with h1 | h1
   . exact hgne1 h1
   . omega
  have hkin:Kept (fun k=>k=g\/r.events.ownBlock=some k) w (w2.setCell ⟨g,44,none⟩ (.slice (some ⟨vg,vo,none⟩) vn vc)):=(HK3.out.step kA (fun k _ h=>.inr (by rw [hevs];exact h))).setCell ⟨g,44,none⟩ _ (fun _=>.inl rfl)
  have hitn:(w2.setCell ⟨g,44,none⟩ (.slice (some ⟨vg,vo,none⟩) vn vc)).heap[B]?=some (.cells #[.int .i64 1,.string e.key,.int .i64 e.t,.int .i64 e.v,.int .u32 (e.tag:Int)] 28 (0,0)):=by
   rw [heap_setCell_other _ _ _ _ (by simpa using hBg),kA.block B hBw3 hBne1];exact HIT3.out
  have hown:∀ k,(Value.slice (some ⟨vg,vo,none⟩) vn vc).ownBlock=some k->r.events.ownBlock=some k\/w.heap.size<=k:=fun k hk=>by
   rcases hevo k hk with h1 | h1
   . exact .inl (by rw [hevs];exact h1)
   . exact .inr (by omega)
  have hgv:(Value.slice (some ⟨vg,vo,none⟩) vn vc).ownBlock ≠ some g:=fun hh=>by
   rcases hevo g hh with h1 | h1
   . exact hgne1 h1
   . omega
  clear HR3 HK3 HIT3 HrowE c44 fz d0 d1 d2 d3 d4 hg2 e44 ef kA hrow ha hevo HgE
  have HR3:=hid hfin
  have HK3:=hid hkin
  have HIT3:=hid hitn
  have HOW:=hid hown
  have HgE:=hid hgv
  clear hfin hkin hitn hown hgv hgne1 hBne1 hgw3 hBw3 hWs
  generalize w2.setCell ⟨g,44,none⟩ (.slice (some ⟨vg,vo,none⟩) vn vc)=V3 at *
  generalize Value.slice (some ⟨vg,vo,none⟩) vn vc=ev at *
  go_upto_region 17 with fail
  have hsA:(r.addTaken ev).src[n]?=some s:=hs
  have q2:V3.cell? ⟨g,4+n*5+2,none⟩=some (.bool s.reached):=HR3.out.rf.cell ((r.addTaken ev).srcAt n 2 s hsA (by omega))
  have q3:V3.cell? ⟨g,4+n*5+3,none⟩=some (.int .i64 s.reach):=HR3.out.rf.cell ((r.addTaken ev).srcAt n 3 s hsA (by omega))
  have l3:V3.cell? ⟨g,2,none⟩=some (.int .i64 r.late):=HR3.out.rf.headAt 2 rfl
  obtain ⟨d0,d1,d2,d3,d4⟩:=itemAt HIT3.out
  have hwr:IntKind.i64.wrap (e.t - r.late)=e.t - r.late:=by rw [IntKind.wrap_i64];omega
  by_cases hno:s.reached=true/\¬ s.reach < e.t - r.late
  . obtain ⟨h1,h2⟩:=hno
    have HRr:Hid (rRaise (e.t - r.late) s=s):=by show _=_;rw [rRaise,if_neg];rintro (hh | hh);(rw [h1] at hh;cases hh);exact h2 hh
    rw [h1] at q2
    go_quiet (fail)
    have HR4:Hid (REv (V3.drewN nq) g ((r.addTaken ev).setSrc n (rRaise (e.t - r.late) s)) (E++[e])):=by
     have:=HR3.out.below (below_drewN (Below.refl _ V3) nq)
     have hself:(r.addTaken ev).setSrc n s=(r.addTaken ev):=by
      have:(r.addTaken ev).src.set n s=(r.addTaken ev).src:=List.ext_getElem? (fun i=>by
       rw [List.getElem?_set]
       split
       . rename_i hh;subst hh
         split
         . exact hsA.symm
         . rename_i h3;exact absurd (List.getElem?_eq_some_iff.1 hsA).1 h3
       . rfl)
      rw [RCells.setSrc,this]
     rw [HRr.out,hself];exact this
    have HK4:=hid (HK3.out.drewN nq)
    clear q2 q3 l3 d0 d1 d2 d3 d4
    generalize V3.drewN nq=W4 at *
    go_wp2_with fail
    refine (HQ.out W4 ev HR4.out HK4.out HOW.out).mono ?_
    rintro en W5 ⟨rfl,hq5⟩
    have HQ5:=hid hq5
    clear hq5
    go_wp2_with fail
    go_end0
    exact ⟨rfl,HQ5.out⟩
  . have hyes:s.reached=false\/s.reach < e.t - r.late:=by
     cases hr:s.reached with
     | false=>exact .inl rfl
     | true=>right;exact Classical.byContradiction (fun hh=>hno ⟨hr,hh⟩)
    have HRr:Hid (rRaise (e.t - r.late) s=⟨s.opened,s.broken,true,e.t - r.late,s.rest⟩):=by show _=_;rw [rRaise,if_pos hyes]
    clear hno
    go_cut [142] from 123 to 142 (fun s142 wx=>s142=.bool true/\∃ m,wx=V3.drewN m)
    case first=>
     obtain ⟨re,hre⟩:∃ z,s.reached=z:=⟨_,rfl⟩
     rw [hre] at q2 hyes
     clear hre
     cases re with
     | false=>
       clear hyes
       go_quiet (fail)
       go_wp2
       go_meet
       exact ⟨rfl,_,rfl⟩
     | true=>
       have h2:s.reach < e.t - r.late:=by rcases hyes with hh | hh;cases hh;exact hh
       clear hyes
       go_quiet (fail)
       go_wp2
       go_meet
       exact ⟨rfl,_,rfl⟩
    case rest=>
     obtain ⟨rfl,m,rfl⟩:=hcut
     have HR4:Hid (REv (V3.drewN m) g (r.addTaken ev) (E++[e])):=HR3.out.below (below_drewN (Below.refl _ V3) m)
     have HK4:=hid (HK3.out.drewN m)
     have HIT4:Hid ((V3.drewN m).heap[B]?=some (.cells #[.int .i64 1,.string e.key,.int .i64 e.t,.int .i64 e.v,.int .u32 (e.tag:Int)] 28 (0,0))):=by show _=_;simpa using HIT3.out
     clear q2 q3 l3 d0 d1 d2 d3 d4
     generalize V3.drewN m=W4 at *
     have q2:W4.cell? ⟨g,4+n*5+2,none⟩=some (.bool s.reached):=HR4.out.rf.cell ((r.addTaken ev).srcAt n 2 s hsA (by omega))
     have fz:∀ j,W4.frozen? ⟨g,j,none⟩=false:=HR4.out.rf.frozen
     go_upto_region 19 with fail
     have hs5:((r.addTaken ev).setSrc n ⟨s.opened,s.broken,true,s.reach,s.rest⟩).src[n]?=some ⟨s.opened,s.broken,true,s.reach,s.rest⟩:=(r.addTaken ev).setSrc_at n _ (List.getElem?_eq_some_iff.1 hsA).1
     have HR5:Hid (REv (W4.setCell ⟨g,4+n*5+2,none⟩ (.bool true)).drew g ((r.addTaken ev).setSrc n ⟨s.opened,s.broken,true,s.reach,s.rest⟩) (E++[e])):=by
      have h1:REv (W4.setCell ⟨g,4+n*5+2,none⟩ (.bool true)) g ((r.addTaken ev).setSrc n ⟨s.opened,s.broken,true,s.reach,s.rest⟩) (E++[e]):=⟨HR4.out.rf.putSrc n 2 s _ _ hsA (by omega) rfl,HR4.out.ev.setCell _ _ (fun hh=>HgE.out hh)⟩
      exact ⟨h1.rf.congr rfl,h1.ev.congr (fun _ _=>rfl)⟩
     have HK5:Hid (Kept (fun k=>k=g\/r.events.ownBlock=some k) w (W4.setCell ⟨g,4+n*5+2,none⟩ (.bool true)).drew):=(HK4.out.setCell ⟨g,_,none⟩ _ (fun _=>.inl rfl)).drew
     have HIT5:Hid ((W4.setCell ⟨g,4+n*5+2,none⟩ (.bool true)).drew.heap[B]?=some (.cells #[.int .i64 1,.string e.key,.int .i64 e.t,.int .i64 e.v,.int .u32 (e.tag:Int)] 28 (0,0))):=by
      show (W4.setCell ⟨g,4+n*5+2,none⟩ (.bool true)).heap[B]?=_
      rw [heap_setCell_other _ _ _ _ (by simpa using hBg)];exact HIT4.out
     refine wp_region_still_tail 11 (by kernel_rfl) (by kernel_rfl) ?_
     simp only [List.take_succ_cons,List.take_zero,List.drop_succ_cons,List.drop_zero]
     change wpStill Tryz.prog _ (W4.setCell ⟨g,4+n*5+2,none⟩ (.bool true)).drew (fun a'=>wpList Tryz.prog _ _ _ a' (W4.setCell ⟨g,4+n*5+2,none⟩ (.bool true)).drew) _ _
     clear q2 fz HR4 HK4 HIT4
     generalize (W4.setCell ⟨g,4+n*5+2,none⟩ (.bool true)).drew=W5 at *
     have q3:W5.cell? ⟨g,4+n*5+3,none⟩=some (.int .i64 s.reach):=HR5.out.rf.cell (RCells.srcAt _ n 3 ⟨s.opened,s.broken,true,s.reach,s.rest⟩ hs5 (by omega))
     have l3:W5.cell? ⟨g,2,none⟩=some (.int .i64 r.late):=HR5.out.rf.headAt 2 rfl
     have fz:∀ j,W5.frozen? ⟨g,j,none⟩=false:=HR5.out.rf.frozen
     obtain ⟨d0,d1,d2,d3,d4⟩:=itemAt HIT5.out
     repeat still_step
     refine wpStill_nil ?_
     have HR6:Hid (REv (W5.setCell ⟨g,4+n*5+3,none⟩ (.int .i64 (e.t - r.late))) g ((r.addTaken ev).setSrc n (rRaise (e.t - r.late) s)) (E++[e])):=by
      have h1:=HR5.out.rf.putSrc n 3 _ ⟨s.opened,s.broken,true,e.t - r.late,s.rest⟩ (.int .i64 (e.t - r.late)) hs5 (by omega) rfl
      rw [RCells.setSrc_setSrc] at h1
      rw [HRr.out]
      exact ⟨h1,HR5.out.ev.setCell _ _ (fun hh=>HgE.out hh)⟩
     have HK6:Hid (Kept (fun k=>k=g\/r.events.ownBlock=some k) w (W5.setCell ⟨g,4+n*5+3,none⟩ (.int .i64 (e.t - r.late)))):=HK5.out.setCell ⟨g,_,none⟩ _ (fun _=>.inl rfl)
     go_wp2_with fail
     generalize W5.setCell ⟨g,4+n*5+3,none⟩ (.int .i64 (e.t - r.late))=W6 at *
     refine (HQ.out W6 ev HR6.out HK6.out HOW.out).mono ?_
     rintro en W7 ⟨rfl,hq5⟩
     have HQ5:=hid hq5
     clear hq5 q3 l3 fz d0 d1 d2 d3 d4
     go_wp2_with fail
     go_end0
     exact ⟨rfl,HQ5.out⟩
end Go.Proofs.YtcfngdnmpogaoaaGreat
namespace Go.Proofs.YtcfngdnmpogaoaaGreat
open Go.RowKit
variable {c:Cf} {d:Nat} {r:RCells} {rs:List (List UInt8)} {sp:Sp}
theorem RefRel.count (h:RefRel c sp rs r d) (m:RCounts):RefRel c { sp with n:=m } rs { r with n:=m } d:=
 ⟨h.size,h.slide,h.late,h.keys,h.line,h.lined,rfl,h.src,h.rl,h.rest,h.done,h.ok,h.shut⟩
theorem RefRel.take (h:RefRel c sp rs r d) (e:Ev) (he:evOk e) (v:Value):RefRel c { sp with E:=sp.E++[e] } rs { r with events:=v } d:=
 ⟨h.size,h.slide,h.late,h.keys,h.line,h.lined,h.n,h.src,h.rl,h.rest,Nat.le_trans h.done (cntAll_snoc _ _ _ _ _ _),fun x hx=>by
  rcases List.mem_append.1 hx with hx | hx
  . exact h.ok x hx
  . rw [List.mem_singleton.1 hx];exact he,h.shut⟩
theorem rRaise_rest (x:Int) (t:RSrc):(rRaise x t).rest=t.rest/\(rRaise x t).broken=t.broken:=by
 unfold rRaise;split <;> exact ⟨rfl,rfl⟩
theorem raisedS_opened (x:Int) (s:SrcS):(raisedS x s).opened=s.opened:=by
 unfold raisedS;split <;> rfl
theorem RefRel.raise (h:RefRel c sp rs r d) (n:Nat) (s:SrcS) (t:RSrc) (hs:sp.src[n]?=some s) (ht:r.src[n]?=some t) (ho:s.opened=true) (hb:s.broken=false) (x:Int):RefRel c (sp.raise n x) rs (r.setSrc n (rRaise (x - r.late) t)) d:=by
 refine ⟨h.size,h.slide,h.late,h.keys,h.line,h.lined,h.n,?_,h.rl,fun i t' l ht' hl hb'=>?_,h.done,h.ok,fun i s' hs' ho'=>?_⟩
 . rw [h.late]
   exact h.src.raise n s t hs ht ho hb x
 . have ht2:(r.src.set n (rRaise (x - r.late) t))[i]?=some t':=ht'
   rw [List.getElem?_set] at ht2
   by_cases hi:n=i
   . subst hi
     have hlt:n < r.src.length:=(List.getElem?_eq_some_iff.1 ht).1
     rw [if_pos rfl,if_pos hlt] at ht2
     simp only [Option.some.injEq] at ht2
     subst ht2
     obtain ⟨e1,e2⟩:=rRaise_rest (x - r.late) t
     rw [e1]
     exact h.rest n t l ht hl (by rw [<- e2];exact hb')
   . rw [if_neg hi] at ht2
     exact h.rest i t' l ht2 hl hb'
 . have hs2:(sp.src.modify n (raisedS x))[i]?=some s':=hs'
   by_cases hi:n=i
   . subst hi
     rw [modify_at _ hs] at hs2
     simp only [Option.some.injEq] at hs2
     rw [<- hs2,raisedS_opened,ho] at ho'
     cases ho'
   . rw [modify_ne _ hi] at hs2
     exact h.shut i s' hs2 ho'
theorem up_n (h:sp.line c=sp) (m:RCounts):({ sp with n:=m }:Sp).line c={ sp with n:=m }:=by
 have h1:=congrArg Sp.lt h
 have h2:=congrArg Sp.li h
 unfold Sp.line at *
 simp only at h1 h2 ⊢
 rw [h1,h2]
theorem SrcRels.at {late:Int} {ss:List SrcS} {ts:List RSrc} (h:SrcRels late ss ts) {n:Nat} {s:SrcS} (hs:ss[n]?=some s):∃ t,ts[n]?=some t/\SrcRel late s t:=by
 have hn:n < ts.length:=by rw [<- h.1];exact (List.getElem?_eq_some_iff.1 hs).1
 exact ⟨ts[n],List.getElem?_eq_getElem hn,h.2 n s _ hs (List.getElem?_eq_getElem hn)⟩
theorem lines_then {T:Option Int × Nat} {w W:World} {g:Nat} {sp':Sp} {G:Nat->Prop} {r':RCells} {ds:List WinX} (hc:CfOk c) (h:RefOn w g r sp.E ds G) (hr:REv W g r' sp'.E) (hd:r'.done=r.done) (hk:Kept (fun k=>k=g\/r.events.ownBlock=some k) w W) (ho:∀ k,r'.events.ownBlock=some k->r.events.ownBlock=some k\/w.heap.size<=k) (hrel:RefRel c sp' rs r' (T.2+ds.length)) (hP:Pend c T.1 sp' (ds.map WinX.w)) (hE:sp'.E.length<=200000) :
 Calls Tryz.prog 80 #[.pointer (some ⟨g,0,none⟩)] W fun e w'=>e=.returned (.tuple #[])/\Ref T w' g c (sp'.line c) rs (Grown G w)/\Kept G w w':=by
 obtain ⟨h1,h2⟩:=h.turn hr hd hk ho
 refine (lines_ref W g c sp' rs (Grown G w) r' ds hc h1 hrel hP hE).mono ?_
 rintro e w' ⟨rfl,⟨r2,ds2,a1,a2,a3⟩,h4⟩
 exact ⟨rfl,⟨r2,ds2,a1.mono (fun k hk=>Grown.of h2.size hk),a2,a3⟩,h2.grown h4⟩
theorem ritem_ref {T:Option Int × Nat} (w:World) (g n:Nat) (c:Cf) (sp:Sp) (rs:List (List UInt8)) (G:Nat->Prop) (L:List UInt8) (s:SrcS) (hc:CfOk c) (h:Ref T w g c sp rs G) (hs:sp.src[n]?=some s) (ho:s.opened=true) (hb:s.broken=false) (hsh:unfShort L=false) (hok:unfOk L=true) (hE:sp.E.length < 200000) :
 Calls Tryz.prog 81 #[.pointer (some ⟨g,0,none⟩),.int .i64 n,unfV L] w fun e w'=>e=.returned (.tuple #[])/\Ref T w' g c (itemF c sp n L) rs (Grown G w)/\Kept G w w':=by
 obtain ⟨r,ds,h1,h2,h3,hpd⟩:=h
 obtain ⟨t,ht,hst⟩:=h2.src.at hs
 have hb2:itemOfB (unfBody L)=true:=by unfold unfOk at hok;simp at hok;exact hok.2
 rw [show unfV L=itemOfV (unfBody L) from by rw [unfV,hsh,hok];rfl]
 unfold itemOfV itemF
 rw [if_pos hb2]
 have c1:1<=r.slide:=by rw [h2.slide];exact hc.a1
 have c2:r.slide<=r.size:=by rw [h2.slide,h2.size];exact hc.a2
 have c3:r.size<=1099511627776:=by rw [h2.size];exact hc.a3
 have c4:0<=r.late:=by rw [h2.late];exact hc.a4
 have c5:r.late<=1099511627776:=by rw [h2.late];exact hc.a5
 have kg:∀ {W:World},Kept (fun k=>k=g) w W->Kept (fun k=>k=g\/r.events.ownBlock=some k) w W:=fun hk=>hk.mono (fun k _ e=>.inl e)
 by_cases h10:(unfBody L).getD 0 0=1
 . rw [if_pos h10,if_pos h10]
   have he:isEvent (unfBody L)=true:=by rw [itemOfB,if_pos h10] at hb2;exact hb2
   have hfit:=evOf_fits _ he
   show Calls Tryz.prog _ #[_,_,evItem (evOf (unfBody L))] w _
   generalize evOf (unfBody L)=e at *
   unfold Sp.event0
   cases hout:outB e with
   | true=>
     rw [if_pos rfl,up_n h3]
     refine (ritem_out g n r sp.E e w h1.rev (by omega) h2.ok c1 c2 c3 hout).mono ?_
     rintro en w' ⟨rfl,a1,a2⟩
     obtain ⟨b1,b2⟩:=h1.turn a1 rfl (kg a2) (fun k hk=>.inl hk)
     refine ⟨rfl,⟨_,ds,b1,?_,up_n h3 _,hpd.n _⟩,b2⟩
     have:=h2.count { sp.n with range:=wrap64 (sp.n.range+1) }
     unfold RCells.addRange;rw [h2.n];exact this
   | false=>
     rw [if_neg (by simp)]
     cases hlt:(sp.li && decide (e.t < sp.lt)) with
     | true=>
       rw [if_pos rfl]
       refine ritem_late_of g n r t sp.E e w h1.rev ht (by omega) h2.ok c1 c2 c3 c4 c5 hout (by rw [h2.lined,h2.line];exact hlt) _ (fun W a1 a2=>?_)
       refine lines_then hc h1 a1 rfl (kg a2) (fun k hk=>.inl hk) ?_ ((hpd.n { sp.n with late:=wrap64 (sp.n.late+1) }).raise n s hs e.t (by unfold outB at hout;simp only [Bool.or_eq_false_iff,decide_eq_false_iff_not] at hout;omega)) (by show sp.E.length<=_;omega)
       have:=(h2.count { sp.n with late:=wrap64 (sp.n.late+1) }).raise n s t hs ht ho hb e.t
       unfold RCells.addLate;rw [h2.n];exact this
     | false=>
       rw [if_neg (by simp)]
       cases hfull:(!sp.isGo c e.key && decide (c.keys<=(sp.many c:Int))) with
       | true=>
         rw [if_pos rfl,up_n h3]
         simp only [Bool.and_eq_true,Bool.not_eq_true',decide_eq_true_eq] at hfull
         refine (ritem_full g n r sp.E e w h1.rev (by omega) h2.ok c1 c2 c3 hout (by rw [h2.lined,h2.line];exact hlt) (by rw [h2.lined,h2.line,h2.size,h2.slide];exact hfull.1) (by rw [h2.keys,h2.lined,h2.line,h2.size,h2.slide];exact hfull.2)).mono ?_
         rintro en w' ⟨rfl,a1,a2⟩
         obtain ⟨b1,b2⟩:=h1.turn a1 rfl (kg a2) (fun k hk=>.inl hk)
         refine ⟨rfl,⟨_,ds,b1,?_,up_n h3 _,hpd.n _⟩,b2⟩
         have:=h2.count { sp.n with full:=wrap64 (sp.n.full+1) }
         unfold RCells.addFull;rw [h2.n];exact this
       | false=>
         rw [if_neg (by simp)]
         have hev:evOk e:=by
          refine ⟨hfit,?_⟩
          unfold outB at hout
          simp only [Bool.or_eq_false_iff,decide_eq_false_iff_not] at hout
          omega
         have hno:isGoF r.size r.slide r.line r.lined sp.E e.key=true\/((goKeys r.size r.slide r.line r.lined sp.E).length:Int) < r.keys:=by
          rw [h2.keys,h2.lined,h2.line,h2.size,h2.slide]
          by_cases hg:isGoF c.size c.slide sp.lt sp.li sp.E e.key=true
          . exact .inl hg
          . right
            have hg':sp.isGo c e.key=false:=by
             cases hx:sp.isGo c e.key with
             | false=>rfl
             | true=>exact absurd hx hg
            rw [hg'] at hfull
            simp only [Bool.not_false,Bool.true_and,decide_eq_false_iff_not] at hfull
            have:sp.many c=(goKeys c.size c.slide sp.lt sp.li sp.E).length:=rfl
            omega
         refine ritem_taken_of g n r t sp.E e w h1.rev ht hE h2.ok c1 c2 c3 c4 c5 hev (by rw [h2.lined,h2.line];exact hlt) hno _ (fun W v a1 a2 a3=>?_)
         refine lines_then hc h1 a1 rfl a2 a3 ?_ (hpd.event n s hs e hev.2.2 hlt _) (by show (sp.E++[e]).length<=_;rw [List.length_append];simp only [List.length_cons,List.length_nil];omega)
         have:=((h2.count { sp.n with taken:=wrap64 (sp.n.taken+1) }).take e hev v).raise n s t hs ht ho hb e.t
         unfold RCells.addTaken;rw [h2.n];exact this
 . rw [if_neg h10,if_neg h10]
   unfold markVal
   generalize toI (numb ((unfBody L).drop 1))=tt at *
   refine ritem_mark_of g n r t sp.E tt w h1.rev ht (by omega) h2.ok c1 c2 c3 c4 c5 _ (fun W a1 a2=>?_)
   refine lines_then hc h1 a1 rfl (kg a2) (fun k hk=>.inl hk) ?_ ((hpd.n { sp.n with marks:=wrap64 (sp.n.marks+1) }).raise n s hs (clampT tt) (by unfold clampT;(repeat' split) <;> omega)) (by show sp.E.length<=_;omega)
   have:=(h2.count { sp.n with marks:=wrap64 (sp.n.marks+1) }).raise n s t hs ht ho hb (clampT tt)
   unfold RCells.addMark;rw [h2.n];exact this
end Go.Proofs.YtcfngdnmpogaoaaGreat
