import Derived.Test.YtcfngdnmpogaoaaGreatTkU18
namespace Go.Proofs.YtcfngdnmpogaoaaGreat
open Go.RowKit
set_option maxHeartbeats 3200000
set_option maxRecDepth 20000
theorem clamp_lo (t:Int) (h1:t < -2305843009213693952):-2305843009213693952=clampT t:=by unfold clampT;rw [if_pos h1,if_neg (by omega)]
theorem clamp_hi (t:Int) (h1:¬ t < -2305843009213693952) (h2:2305843009213693952 < t):2305843009213693952=clampT t:=by unfold clampT;rw [if_neg h1,if_pos h2]
theorem clamp_mid (t:Int) (h1:¬ t < -2305843009213693952) (h2:¬ 2305843009213693952 < t):t=clampT t:=by unfold clampT;rw [if_neg h1,if_neg h2]
def RCells.addMark (r:RCells):RCells:={ r with n:={ r.n with marks:=wrap64 (r.n.marks+1) } }
theorem ritem_mark_lo (g n:Nat) (r:RCells) (s:RSrc) (E:List Ev) (t:Int) (w:World) (h:REv w g r E) (hs:r.src[n]?=some s) (hE:E.length<=200000) (hev:∀ x ∈ E,evOk x) (hc1:1<=r.slide) (hc2:r.slide<=r.size) (hc3:r.size<=1099511627776) (hlt1:0<=r.late) (hlt2:r.late<=1099511627776) (h1:t < -2305843009213693952) (Q:World->Prop)
 (hq:∀ W,REv W g (r.addMark.setSrc n (rRaise (clampT t - r.late) s)) E->Kept (fun k=>k=g) w W->Calls Tryz.prog 80 #[.pointer (some ⟨g,0,none⟩)] W fun en w'=>en=.returned (.tuple #[])/\Q w') :
 Calls Tryz.prog 81 #[.pointer (some ⟨g,0,none⟩),.int .i64 n,.agg #[.int .i64 2,.string ⟨#[]⟩,.int .i64 t,.int .i64 0,.int .u32 0]] w fun en w'=>en=.returned (.tuple #[])/\Q w':=by
 obtain ⟨T,HT⟩:∃ T,Hid (clampT t=T):=⟨_,rfl⟩
 rw [HT.out] at hq
 have HTe:=hid ((clamp_lo t h1).trans HT.out)
 have H:=hid h
 have HQ:=hid hq
 have hglt:=h.rf.lt
 have hn8:n < 8:=by have:=(List.getElem?_eq_some_iff.1 hs).1;have:=h.rf.len;omega
 have hb0:Below w.heap.size w (w.alloc (.cells #[.int .i64 2,.string ⟨#[]⟩,.int .i64 t,.int .i64 0,.int .u32 0] 28)):=(Below.refl _ w).alloc (Nat.le_refl _) _
 have hg:=going_any g r E ⟨#[]⟩ _ (h.below hb0) (by omega) hev hc1 hc2 hc3
 have hbx:=heap_alloc_new w (.cells #[.int .i64 2,.string ⟨#[]⟩,.int .i64 t,.int .i64 0,.int .u32 0] 28)
 have hsz:w.heap.size < (w.alloc (.cells #[.int .i64 2,.string ⟨#[]⟩,.int .i64 t,.int .i64 0,.int .u32 0] 28)).heap.size:=by simp
 have hlo:-2305843009213693952<=T:=by rw [<- HT.out];unfold clampT;(repeat' split) <;> omega
 have hhi:T<=2305843009213693952:=by rw [<- HT.out];unfold clampT;(repeat' split) <;> omega
 clear h hev hq
 go_enter Tryz.func81,Tryz.ntmps81
 go_wp2_with fail
 refine hg.mono ?_
 rintro en W1 ⟨rfl,hB1⟩
 have hb1:Below w.heap.size w W1:=hb0.trans (hB1.mono (by omega))
 have hbx1:W1.heap[w.heap.size]?=some (.cells #[.int .i64 2,.string ⟨#[]⟩,.int .i64 t,.int .i64 0,.int .u32 0] 28 (0,0)):=(hB1.block _ hsz).trans hbx
 have hrv:=H.out.below hb1
 have HRv:=hid hrv
 have HIT:=hid hbx1
 obtain ⟨d0,d1,d2,d3,d4⟩:=itemAt hbx1
 have HgE:Hid (r.events.ownBlock ≠ some g):=fun x=>(H.out.ev.cb x).ne (Cb.of H.out.rf.blk) (by decide) rfl
 have HK1:Hid (Kept (fun k=>k=g) w W1):=Kept.ofBelow hb1 _
 have hBg:w.heap.size ≠ g:=by omega
 have hBg2:g ≠ w.heap.size:=by omega
 have HBe:Hid (r.events.ownBlock ≠ some w.heap.size):=fun x=>by have:=(H.out.ev.blk_lt x).1;omega
 have c52:W1.cell? ⟨g,52,none⟩=some (.int .i64 r.n.marks):=hrv.rf.tailAt 8 rfl
 have fz:∀ j,W1.frozen? ⟨g,j,none⟩=false:=hrv.rf.frozen
 have fb:∀ j,W1.frozen? ⟨w.heap.size,j,none⟩=false:=fun j=>frozen_of_row _ _ _ _ _ hbx1
 obtain ⟨B,HB⟩:∃ B,Hid (w.heap.size=B):=⟨_,rfl⟩
 rw [HB.out] at HIT d0 d1 d2 d3 d4 hBg hBg2 fb HBe ⊢
 clear hb0 hbx hsz hg hB1 hb1 hbx1 hrv
 generalize isGoF r.size r.slide r.line r.lined E ⟨#[]⟩=is at *
 generalize ((goKeys r.size r.slide r.line r.lined E).length:Int)=many at *
 have HR2:Hid (REv (W1.setCell ⟨g,52,none⟩ (.int .i64 (wrap64 (r.n.marks+1)))) g r.addMark E):=⟨HRv.out.rf.putTail 8 _ rfl rfl rfl,HRv.out.ev.setCell _ _ (fun hh=>HgE.out hh)⟩
 have HK2:Hid (Kept (fun k=>k=g) w (W1.setCell ⟨g,52,none⟩ (.int .i64 (wrap64 (r.n.marks+1))))):=HK1.out.setCell ⟨g,52,none⟩ _ (fun _=>rfl)
 have HIT2:Hid ((W1.setCell ⟨g,52,none⟩ (.int .i64 (wrap64 (r.n.marks+1)))).heap[B]?=some (.cells #[.int .i64 2,.string ⟨#[]⟩,.int .i64 t,.int .i64 0,.int .u32 0] 28 (0,0))):=by
  show _=_
  rw [heap_setCell_other _ _ _ _ (by simpa using hBg)];exact HIT.out
 have HP:Hid (REv ((W1.setCell ⟨g,52,none⟩ (.int .i64 (wrap64 (r.n.marks+1)))).setCell ⟨B,2,none⟩ (.int .i64 (-2305843009213693952))) g r.addMark E/\Kept (fun k=>k=g) w ((W1.setCell ⟨g,52,none⟩ (.int .i64 (wrap64 (r.n.marks+1)))).setCell ⟨B,2,none⟩ (.int .i64 (-2305843009213693952)))/\((W1.setCell ⟨g,52,none⟩ (.int .i64 (wrap64 (r.n.marks+1)))).setCell ⟨B,2,none⟩ (.int .i64 (-2305843009213693952))).heap[B]?=some (.cells #[.int .i64 2,.string ⟨#[]⟩,.int .i64 T,.int .i64 0,.int .u32 0] 28 (0,0))):=by
  rw [<- HTe.out]
  exact ⟨⟨HR2.out.rf.congr (heap_setCell_other _ _ _ _ (by simpa using hBg2)),HR2.out.ev.setCell _ _ (fun hh=>HBe.out hh)⟩,HK2.out.setCell ⟨B,2,none⟩ _ (fun hh=>by have:=HB.out;simp only at hh;omega),heap_setCell_same _ B 2 _ _ _ HIT2.out⟩
 clear HRv HK1 HIT
 obtain ⟨hR3,hK3,hI3⟩:=HP.out
 have HR3:=hid hR3
 have HK3:=hid hK3
 have HIT3:=hid hI3
 clear hR3 hK3 hI3 HR2 HK2 HIT2 HP
 go_upto_region 17 with fail
 clear c52 fz fb d0 d1 d2 d3 d4
 generalize (W1.setCell ⟨g,52,none⟩ (.int .i64 (wrap64 (r.n.marks+1)))).setCell ⟨B,2,none⟩ (.int .i64 (-2305843009213693952))=W3 at *
 have hsA:r.addMark.src[n]?=some s:=hs
 have q2:W3.cell? ⟨g,4+n*5+2,none⟩=some (.bool s.reached):=HR3.out.rf.cell (r.addMark.srcAt n 2 s hsA (by omega))
 have q3:W3.cell? ⟨g,4+n*5+3,none⟩=some (.int .i64 s.reach):=HR3.out.rf.cell (r.addMark.srcAt n 3 s hsA (by omega))
 have l3:W3.cell? ⟨g,2,none⟩=some (.int .i64 r.late):=HR3.out.rf.headAt 2 rfl
 obtain ⟨d0,d1,d2,d3,d4⟩:=itemAt HIT3.out
 have hwr:IntKind.i64.wrap (T - r.late)=T - r.late:=by rw [IntKind.wrap_i64];omega
 by_cases hno:s.reached=true/\¬ s.reach < T - r.late
 . obtain ⟨h1,h2⟩:=hno
   have HRr:Hid (rRaise (T - r.late) s=s):=by show _=_;rw [rRaise,if_neg];rintro (hh | hh);(rw [h1] at hh;cases hh);exact h2 hh
   rw [h1] at q2
   go_quiet (fail)
   have HR4:Hid (REv (W3.drewN nq) g (r.addMark.setSrc n (rRaise (T - r.late) s)) E):=by
    have:=HR3.out.below (below_drewN (Below.refl _ W3) nq)
    have hself:r.addMark.setSrc n s=r.addMark:=by
     have:r.addMark.src.set n s=r.addMark.src:=List.ext_getElem? (fun i=>by
      rw [List.getElem?_set]
      split
      . rename_i hh;subst hh
        split
        . exact hsA.symm
        . rename_i h3;exact absurd (List.getElem?_eq_some_iff.1 hsA).1 h3
      . rfl)
     rw [RCells.setSrc,this]
    rw [HRr.out,hself];exact this
   have HK4:=hid (HK3.out.drewN nq)
   clear q2 q3 l3 d0 d1 d2 d3 d4
   generalize W3.drewN nq=W4 at *
   go_wp2_with fail
   refine (HQ.out W4 HR4.out HK4.out).mono ?_
   rintro en W5 ⟨rfl,hq5⟩
   have HQ5:=hid hq5
   clear hq5
   go_wp2_with fail
   go_end0
   exact ⟨rfl,HQ5.out⟩
 . have hyes:s.reached=false\/s.reach < T - r.late:=by
    cases hr:s.reached with
    | false=>exact .inl rfl
    | true=>right;exact Classical.byContradiction (fun hh=>hno ⟨hr,hh⟩)
   have HRr:Hid (rRaise (T - r.late) s=⟨s.opened,s.broken,true,T - r.late,s.rest⟩):=by show _=_;rw [rRaise,if_pos hyes]
   clear hno
   go_cut [142] from 123 to 142 (fun s142 wx=>s142=.bool true/\∃ m,wx=W3.drewN m)
   case first=>
    obtain ⟨re,hre⟩:∃ z,s.reached=z:=⟨_,rfl⟩
    rw [hre] at q2 hyes
    clear hre
    cases re with
    | false=>
      clear hyes
      go_quiet (fail)
      go_wp2
      go_meet
      exact ⟨rfl,_,rfl⟩
    | true=>
      have h2:s.reach < T - r.late:=by rcases hyes with hh | hh;cases hh;exact hh
      clear hyes
      go_quiet (fail)
      go_wp2
      go_meet
      exact ⟨rfl,_,rfl⟩
   case rest=>
    obtain ⟨rfl,m,rfl⟩:=hcut
    have HR4:Hid (REv (W3.drewN m) g r.addMark E):=HR3.out.below (below_drewN (Below.refl _ W3) m)
    have HK4:=hid (HK3.out.drewN m)
    have HIT4:Hid ((W3.drewN m).heap[B]?=some (.cells #[.int .i64 2,.string ⟨#[]⟩,.int .i64 T,.int .i64 0,.int .u32 0] 28 (0,0))):=by show _=_;simpa using HIT3.out
    clear q2 q3 l3 d0 d1 d2 d3 d4
    generalize W3.drewN m=W4 at *
    have q2:W4.cell? ⟨g,4+n*5+2,none⟩=some (.bool s.reached):=HR4.out.rf.cell (r.addMark.srcAt n 2 s hsA (by omega))
    have fz:∀ j,W4.frozen? ⟨g,j,none⟩=false:=HR4.out.rf.frozen
    go_upto_region 19 with fail
    have hs5:(r.addMark.setSrc n ⟨s.opened,s.broken,true,s.reach,s.rest⟩).src[n]?=some ⟨s.opened,s.broken,true,s.reach,s.rest⟩:=r.addMark.setSrc_at n _ (List.getElem?_eq_some_iff.1 hsA).1
    have HR5:Hid (REv (W4.setCell ⟨g,4+n*5+2,none⟩ (.bool true)).drew g (r.addMark.setSrc n ⟨s.opened,s.broken,true,s.reach,s.rest⟩) E):=by
     have h1:REv (W4.setCell ⟨g,4+n*5+2,none⟩ (.bool true)) g (r.addMark.setSrc n ⟨s.opened,s.broken,true,s.reach,s.rest⟩) E:=⟨HR4.out.rf.putSrc n 2 s _ _ hsA (by omega) rfl,HR4.out.ev.setCell _ _ (fun hh=>HgE.out hh)⟩
     exact ⟨h1.rf.congr rfl,h1.ev.congr (fun _ _=>rfl)⟩
    have HK5:Hid (Kept (fun k=>k=g) w (W4.setCell ⟨g,4+n*5+2,none⟩ (.bool true)).drew):=(HK4.out.setCell ⟨g,_,none⟩ _ (fun _=>rfl)).drew
    have HIT5:Hid ((W4.setCell ⟨g,4+n*5+2,none⟩ (.bool true)).drew.heap[B]?=some (.cells #[.int .i64 2,.string ⟨#[]⟩,.int .i64 T,.int .i64 0,.int .u32 0] 28 (0,0))):=by
     show (W4.setCell ⟨g,4+n*5+2,none⟩ (.bool true)).heap[B]?=_
     rw [heap_setCell_other _ _ _ _ (by simpa using hBg)];exact HIT4.out
    refine wp_region_still_tail 11 (by kernel_rfl) (by kernel_rfl) ?_
    simp only [List.take_succ_cons,List.take_zero,List.drop_succ_cons,List.drop_zero]
    change wpStill Tryz.prog _ (W4.setCell ⟨g,4+n*5+2,none⟩ (.bool true)).drew (fun a'=>wpList Tryz.prog _ _ _ a' (W4.setCell ⟨g,4+n*5+2,none⟩ (.bool true)).drew) _ _
    clear q2 fz HR4 HK4 HIT4
    generalize (W4.setCell ⟨g,4+n*5+2,none⟩ (.bool true)).drew=W5 at *
    have q3:W5.cell? ⟨g,4+n*5+3,none⟩=some (.int .i64 s.reach):=HR5.out.rf.cell (RCells.srcAt _ n 3 ⟨s.opened,s.broken,true,s.reach,s.rest⟩ hs5 (by omega))
    have l3:W5.cell? ⟨g,2,none⟩=some (.int .i64 r.late):=HR5.out.rf.headAt 2 rfl
    have fz:∀ j,W5.frozen? ⟨g,j,none⟩=false:=HR5.out.rf.frozen
    obtain ⟨d0,d1,d2,d3,d4⟩:=itemAt HIT5.out
    repeat still_step
    refine wpStill_nil ?_
    have HR6:Hid (REv (W5.setCell ⟨g,4+n*5+3,none⟩ (.int .i64 (T - r.late))) g (r.addMark.setSrc n (rRaise (T - r.late) s)) E):=by
     have h1:=HR5.out.rf.putSrc n 3 _ ⟨s.opened,s.broken,true,T - r.late,s.rest⟩ (.int .i64 (T - r.late)) hs5 (by omega) rfl
     rw [RCells.setSrc_setSrc] at h1
     rw [HRr.out]
     exact ⟨h1,HR5.out.ev.setCell _ _ (fun hh=>HgE.out hh)⟩
    have HK6:Hid (Kept (fun k=>k=g) w (W5.setCell ⟨g,4+n*5+3,none⟩ (.int .i64 (T - r.late)))):=HK5.out.setCell ⟨g,_,none⟩ _ (fun _=>rfl)
    go_wp2_with fail
    generalize W5.setCell ⟨g,4+n*5+3,none⟩ (.int .i64 (T - r.late))=W6 at *
    refine (HQ.out W6 HR6.out HK6.out).mono ?_
    rintro en W7 ⟨rfl,hq5⟩
    have HQ5:=hid hq5
    clear hq5 q3 l3 fz d0 d1 d2 d3 d4
    go_wp2_with fail
    go_end0
    exact ⟨rfl,HQ5.out⟩
theorem ritem_mark_hi (g n:Nat) (r:RCells) (s:RSrc) (E:List Ev) (t:Int) (w:World) (h:REv w g r E) (hs:r.src[n]?=some s) (hE:E.length<=200000) (hev:∀ x ∈ E,evOk x) (hc1:1<=r.slide) (hc2:r.slide<=r.size) (hc3:r.size<=1099511627776) (hlt1:0<=r.late) (hlt2:r.late<=1099511627776) (h1:¬ t < -2305843009213693952) (h2:2305843009213693952 < t) (Q:World->Prop)
 (hq:∀ W,REv W g (r.addMark.setSrc n (rRaise (clampT t - r.late) s)) E->Kept (fun k=>k=g) w W->Calls Tryz.prog 80 #[.pointer (some ⟨g,0,none⟩)] W fun en w'=>en=.returned (.tuple #[])/\Q w') :
 Calls Tryz.prog 81 #[.pointer (some ⟨g,0,none⟩),.int .i64 n,.agg #[.int .i64 2,.string ⟨#[]⟩,.int .i64 t,.int .i64 0,.int .u32 0]] w fun en w'=>en=.returned (.tuple #[])/\Q w':=by
 obtain ⟨T,HT⟩:∃ T,Hid (clampT t=T):=⟨_,rfl⟩
 rw [HT.out] at hq
 have HTe:=hid ((clamp_hi t h1 h2).trans HT.out)
 have H:=hid h
 have HQ:=hid hq
 have hglt:=h.rf.lt
 have hn8:n < 8:=by have:=(List.getElem?_eq_some_iff.1 hs).1;have:=h.rf.len;omega
 have hb0:Below w.heap.size w (w.alloc (.cells #[.int .i64 2,.string ⟨#[]⟩,.int .i64 t,.int .i64 0,.int .u32 0] 28)):=(Below.refl _ w).alloc (Nat.le_refl _) _
 have hg:=going_any g r E ⟨#[]⟩ _ (h.below hb0) (by omega) hev hc1 hc2 hc3
 have hbx:=heap_alloc_new w (.cells #[.int .i64 2,.string ⟨#[]⟩,.int .i64 t,.int .i64 0,.int .u32 0] 28)
 have hsz:w.heap.size < (w.alloc (.cells #[.int .i64 2,.string ⟨#[]⟩,.int .i64 t,.int .i64 0,.int .u32 0] 28)).heap.size:=by simp
 have hlo:-2305843009213693952<=T:=by rw [<- HT.out];unfold clampT;(repeat' split) <;> omega
 have hhi:T<=2305843009213693952:=by rw [<- HT.out];unfold clampT;(repeat' split) <;> omega
 clear h hev hq
 go_enter Tryz.func81,Tryz.ntmps81
 go_wp2_with fail
 refine hg.mono ?_
 rintro en W1 ⟨rfl,hB1⟩
 have hb1:Below w.heap.size w W1:=hb0.trans (hB1.mono (by omega))
 have hbx1:W1.heap[w.heap.size]?=some (.cells #[.int .i64 2,.string ⟨#[]⟩,.int .i64 t,.int .i64 0,.int .u32 0] 28 (0,0)):=(hB1.block _ hsz).trans hbx
 have hrv:=H.out.below hb1
 have HRv:=hid hrv
 have HIT:=hid hbx1
 obtain ⟨d0,d1,d2,d3,d4⟩:=itemAt hbx1
 have HgE:Hid (r.events.ownBlock ≠ some g):=fun x=>(H.out.ev.cb x).ne (Cb.of H.out.rf.blk) (by decide) rfl
 have HK1:Hid (Kept (fun k=>k=g) w W1):=Kept.ofBelow hb1 _
 have hBg:w.heap.size ≠ g:=by omega
 have hBg2:g ≠ w.heap.size:=by omega
 have HBe:Hid (r.events.ownBlock ≠ some w.heap.size):=fun x=>by have:=(H.out.ev.blk_lt x).1;omega
 have c52:W1.cell? ⟨g,52,none⟩=some (.int .i64 r.n.marks):=hrv.rf.tailAt 8 rfl
 have fz:∀ j,W1.frozen? ⟨g,j,none⟩=false:=hrv.rf.frozen
 have fb:∀ j,W1.frozen? ⟨w.heap.size,j,none⟩=false:=fun j=>frozen_of_row _ _ _ _ _ hbx1
 obtain ⟨B,HB⟩:∃ B,Hid (w.heap.size=B):=⟨_,rfl⟩
 rw [HB.out] at HIT d0 d1 d2 d3 d4 hBg hBg2 fb HBe ⊢
 clear hb0 hbx hsz hg hB1 hb1 hbx1 hrv
 generalize isGoF r.size r.slide r.line r.lined E ⟨#[]⟩=is at *
 generalize ((goKeys r.size r.slide r.line r.lined E).length:Int)=many at *
 have HR2:Hid (REv (W1.setCell ⟨g,52,none⟩ (.int .i64 (wrap64 (r.n.marks+1)))) g r.addMark E):=⟨HRv.out.rf.putTail 8 _ rfl rfl rfl,HRv.out.ev.setCell _ _ (fun hh=>HgE.out hh)⟩
 have HK2:Hid (Kept (fun k=>k=g) w (W1.setCell ⟨g,52,none⟩ (.int .i64 (wrap64 (r.n.marks+1))))):=HK1.out.setCell ⟨g,52,none⟩ _ (fun _=>rfl)
 have HIT2:Hid ((W1.setCell ⟨g,52,none⟩ (.int .i64 (wrap64 (r.n.marks+1)))).heap[B]?=some (.cells #[.int .i64 2,.string ⟨#[]⟩,.int .i64 t,.int .i64 0,.int .u32 0] 28 (0,0))):=by
  show _=_
  rw [heap_setCell_other _ _ _ _ (by simpa using hBg)];exact HIT.out
 have HP:Hid (REv ((W1.setCell ⟨g,52,none⟩ (.int .i64 (wrap64 (r.n.marks+1)))).setCell ⟨B,2,none⟩ (.int .i64 (2305843009213693952))) g r.addMark E/\Kept (fun k=>k=g) w ((W1.setCell ⟨g,52,none⟩ (.int .i64 (wrap64 (r.n.marks+1)))).setCell ⟨B,2,none⟩ (.int .i64 (2305843009213693952)))/\((W1.setCell ⟨g,52,none⟩ (.int .i64 (wrap64 (r.n.marks+1)))).setCell ⟨B,2,none⟩ (.int .i64 (2305843009213693952))).heap[B]?=some (.cells #[.int .i64 2,.string ⟨#[]⟩,.int .i64 T,.int .i64 0,.int .u32 0] 28 (0,0))):=by
  rw [<- HTe.out]
  exact ⟨⟨HR2.out.rf.congr (heap_setCell_other _ _ _ _ (by simpa using hBg2)),HR2.out.ev.setCell _ _ (fun hh=>HBe.out hh)⟩,HK2.out.setCell ⟨B,2,none⟩ _ (fun hh=>by have:=HB.out;simp only at hh;omega),heap_setCell_same _ B 2 _ _ _ HIT2.out⟩
 clear HRv HK1 HIT
 obtain ⟨hR3,hK3,hI3⟩:=HP.out
 have HR3:=hid hR3
 have HK3:=hid hK3
 have HIT3:=hid hI3
 clear hR3 hK3 hI3 HR2 HK2 HIT2 HP
 go_upto_region 17 with fail
 clear c52 fz fb d0 d1 d2 d3 d4
 generalize (W1.setCell ⟨g,52,none⟩ (.int .i64 (wrap64 (r.n.marks+1)))).setCell ⟨B,2,none⟩ (.int .i64 (2305843009213693952))=W3 at *
 have hsA:r.addMark.src[n]?=some s:=hs
 have q2:W3.cell? ⟨g,4+n*5+2,none⟩=some (.bool s.reached):=HR3.out.rf.cell (r.addMark.srcAt n 2 s hsA (by omega))
 have q3:W3.cell? ⟨g,4+n*5+3,none⟩=some (.int .i64 s.reach):=HR3.out.rf.cell (r.addMark.srcAt n 3 s hsA (by omega))
 have l3:W3.cell? ⟨g,2,none⟩=some (.int .i64 r.late):=HR3.out.rf.headAt 2 rfl
 obtain ⟨d0,d1,d2,d3,d4⟩:=itemAt HIT3.out
 have hwr:IntKind.i64.wrap (T - r.late)=T - r.late:=by rw [IntKind.wrap_i64];omega
 by_cases hno:s.reached=true/\¬ s.reach < T - r.late
 . obtain ⟨h1,h2⟩:=hno
   have HRr:Hid (rRaise (T - r.late) s=s):=by show _=_;rw [rRaise,if_neg];rintro (hh | hh);(rw [h1] at hh;cases hh);exact h2 hh
   rw [h1] at q2
   go_quiet (fail)
   have HR4:Hid (REv (W3.drewN nq) g (r.addMark.setSrc n (rRaise (T - r.late) s)) E):=by
    have:=HR3.out.below (below_drewN (Below.refl _ W3) nq)
    have hself:r.addMark.setSrc n s=r.addMark:=by
     have:r.addMark.src.set n s=r.addMark.src:=List.ext_getElem? (fun i=>by
      rw [List.getElem?_set]
      split
      . rename_i hh;subst hh
        split
        . exact hsA.symm
        . rename_i h3;exact absurd (List.getElem?_eq_some_iff.1 hsA).1 h3
      . rfl)
     rw [RCells.setSrc,this]
    rw [HRr.out,hself];exact this
   have HK4:=hid (HK3.out.drewN nq)
   clear q2 q3 l3 d0 d1 d2 d3 d4
   generalize W3.drewN nq=W4 at *
   go_wp2_with fail
   refine (HQ.out W4 HR4.out HK4.out).mono ?_
   rintro en W5 ⟨rfl,hq5⟩
   have HQ5:=hid hq5
   clear hq5
   go_wp2_with fail
   go_end0
   exact ⟨rfl,HQ5.out⟩
 . have hyes:s.reached=false\/s.reach < T - r.late:=by
    cases hr:s.reached with
    | false=>exact .inl rfl
    | true=>right;exact Classical.byContradiction (fun hh=>hno ⟨hr,hh⟩)
   have HRr:Hid (rRaise (T - r.late) s=⟨s.opened,s.broken,true,T - r.late,s.rest⟩):=by show _=_;rw [rRaise,if_pos hyes]
   clear hno
   go_cut [142] from 123 to 142 (fun s142 wx=>s142=.bool true/\∃ m,wx=W3.drewN m)
   case first=>
    obtain ⟨re,hre⟩:∃ z,s.reached=z:=⟨_,rfl⟩
    rw [hre] at q2 hyes
    clear hre
    cases re with
    | false=>
      clear hyes
      go_quiet (fail)
      go_wp2
      go_meet
      exact ⟨rfl,_,rfl⟩
    | true=>
      have h2:s.reach < T - r.late:=by rcases hyes with hh | hh;cases hh;exact hh
      clear hyes
      go_quiet (fail)
      go_wp2
      go_meet
      exact ⟨rfl,_,rfl⟩
   case rest=>
    obtain ⟨rfl,m,rfl⟩:=hcut
    have HR4:Hid (REv (W3.drewN m) g r.addMark E):=HR3.out.below (below_drewN (Below.refl _ W3) m)
    have HK4:=hid (HK3.out.drewN m)
    have HIT4:Hid ((W3.drewN m).heap[B]?=some (.cells #[.int .i64 2,.string ⟨#[]⟩,.int .i64 T,.int .i64 0,.int .u32 0] 28 (0,0))):=by show _=_;simpa using HIT3.out
    clear q2 q3 l3 d0 d1 d2 d3 d4
    generalize W3.drewN m=W4 at *
    have q2:W4.cell? ⟨g,4+n*5+2,none⟩=some (.bool s.reached):=HR4.out.rf.cell (r.addMark.srcAt n 2 s hsA (by omega))
    have fz:∀ j,W4.frozen? ⟨g,j,none⟩=false:=HR4.out.rf.frozen
    go_upto_region 19 with fail
    have hs5:(r.addMark.setSrc n ⟨s.opened,s.broken,true,s.reach,s.rest⟩).src[n]?=some ⟨s.opened,s.broken,true,s.reach,s.rest⟩:=r.addMark.setSrc_at n _ (List.getElem?_eq_some_iff.1 hsA).1
    have HR5:Hid (REv (W4.setCell ⟨g,4+n*5+2,none⟩ (.bool true)).drew g (r.addMark.setSrc n ⟨s.opened,s.broken,true,s.reach,s.rest⟩) E):=by
     have h1:REv (W4.setCell ⟨g,4+n*5+2,none⟩ (.bool true)) g (r.addMark.setSrc n ⟨s.opened,s.broken,true,s.reach,s.rest⟩) E:=⟨HR4.out.rf.putSrc n 2 s _ _ hsA (by omega) rfl,HR4.out.ev.setCell _ _ (fun hh=>HgE.out hh)⟩
     exact ⟨h1.rf.congr rfl,h1.ev.congr (fun _ _=>rfl)⟩
    have HK5:Hid (Kept (fun k=>k=g) w (W4.setCell ⟨g,4+n*5+2,none⟩ (.bool true)).drew):=(HK4.out.setCell ⟨g,_,none⟩ _ (fun _=>rfl)).drew
    have HIT5:Hid ((W4.setCell ⟨g,4+n*5+2,none⟩ (.bool true)).drew.heap[B]?=some (.cells #[.int .i64 2,.string ⟨#[]⟩,.int .i64 T,.int .i64 0,.int .u32 0] 28 (0,0))):=by
     show (W4.setCell ⟨g,4+n*5+2,none⟩ (.bool true)).heap[B]?=_
     rw [heap_setCell_other _ _ _ _ (by simpa using hBg)];exact HIT4.out
    refine wp_region_still_tail 11 (by kernel_rfl) (by kernel_rfl) ?_
    simp only [List.take_succ_cons,List.take_zero,List.drop_succ_cons,List.drop_zero]
    change wpStill Tryz.prog _ (W4.setCell ⟨g,4+n*5+2,none⟩ (.bool true)).drew (fun a'=>wpList Tryz.prog _ _ _ a' (W4.setCell ⟨g,4+n*5+2,none⟩ (.bool true)).drew) _ _
    clear q2 fz HR4 HK4 HIT4
    generalize (W4.setCell ⟨g,4+n*5+2,none⟩ (.bool true)).drew=W5 at *
    have q3:W5.cell? ⟨g,4+n*5+3,none⟩=some (.int .i64 s.reach):=HR5.out.rf.cell (RCells.srcAt _ n 3 ⟨s.opened,s.broken,true,s.reach,s.rest⟩ hs5 (by omega))
    have l3:W5.cell? ⟨g,2,none⟩=some (.int .i64 r.late):=HR5.out.rf.headAt 2 rfl
    have fz:∀ j,W5.frozen? ⟨g,j,none⟩=false:=HR5.out.rf.frozen
    obtain ⟨d0,d1,d2,d3,d4⟩:=itemAt HIT5.out
    repeat still_step
    refine wpStill_nil ?_
    have HR6:Hid (REv (W5.setCell ⟨g,4+n*5+3,none⟩ (.int .i64 (T - r.late))) g (r.addMark.setSrc n (rRaise (T - r.late) s)) E):=by
     have h1:=HR5.out.rf.putSrc n 3 _ ⟨s.opened,s.broken,true,T - r.late,s.rest⟩ (.int .i64 (T - r.late)) hs5 (by omega) rfl
     rw [RCells.setSrc_setSrc] at h1
     rw [HRr.out]
     exact ⟨h1,HR5.out.ev.setCell _ _ (fun hh=>HgE.out hh)⟩
    have HK6:Hid (Kept (fun k=>k=g) w (W5.setCell ⟨g,4+n*5+3,none⟩ (.int .i64 (T - r.late)))):=HK5.out.setCell ⟨g,_,none⟩ _ (fun _=>rfl)
    go_wp2_with fail
    generalize W5.setCell ⟨g,4+n*5+3,none⟩ (.int .i64 (T - r.late))=W6 at *
    refine (HQ.out W6 HR6.out HK6.out).mono ?_
    rintro en W7 ⟨rfl,hq5⟩
    have HQ5:=hid hq5
    clear hq5 q3 l3 fz d0 d1 d2 d3 d4
    go_wp2_with fail
    go_end0
    exact ⟨rfl,HQ5.out⟩
theorem ritem_mark_mid (g n:Nat) (r:RCells) (s:RSrc) (E:List Ev) (t:Int) (w:World) (h:REv w g r E) (hs:r.src[n]?=some s) (hE:E.length<=200000) (hev:∀ x ∈ E,evOk x) (hc1:1<=r.slide) (hc2:r.slide<=r.size) (hc3:r.size<=1099511627776) (hlt1:0<=r.late) (hlt2:r.late<=1099511627776) (h1:¬ t < -2305843009213693952) (h2:¬ 2305843009213693952 < t) (Q:World->Prop)
 (hq:∀ W,REv W g (r.addMark.setSrc n (rRaise (clampT t - r.late) s)) E->Kept (fun k=>k=g) w W->Calls Tryz.prog 80 #[.pointer (some ⟨g,0,none⟩)] W fun en w'=>en=.returned (.tuple #[])/\Q w') :
 Calls Tryz.prog 81 #[.pointer (some ⟨g,0,none⟩),.int .i64 n,.agg #[.int .i64 2,.string ⟨#[]⟩,.int .i64 t,.int .i64 0,.int .u32 0]] w fun en w'=>en=.returned (.tuple #[])/\Q w':=by
 obtain ⟨T,HT⟩:∃ T,Hid (clampT t=T):=⟨_,rfl⟩
 rw [HT.out] at hq
 have HTe:=hid ((clamp_mid t h1 h2).trans HT.out)
 have H:=hid h
 have HQ:=hid hq
 have hglt:=h.rf.lt
 have hn8:n < 8:=by have:=(List.getElem?_eq_some_iff.1 hs).1;have:=h.rf.len;omega
 have hb0:Below w.heap.size w (w.alloc (.cells #[.int .i64 2,.string ⟨#[]⟩,.int .i64 t,.int .i64 0,.int .u32 0] 28)):=(Below.refl _ w).alloc (Nat.le_refl _) _
 have hg:=going_any g r E ⟨#[]⟩ _ (h.below hb0) (by omega) hev hc1 hc2 hc3
 have hbx:=heap_alloc_new w (.cells #[.int .i64 2,.string ⟨#[]⟩,.int .i64 t,.int .i64 0,.int .u32 0] 28)
 have hsz:w.heap.size < (w.alloc (.cells #[.int .i64 2,.string ⟨#[]⟩,.int .i64 t,.int .i64 0,.int .u32 0] 28)).heap.size:=by simp
 have hlo:-2305843009213693952<=T:=by rw [<- HT.out];unfold clampT;(repeat' split) <;> omega
 have hhi:T<=2305843009213693952:=by rw [<- HT.out];unfold clampT;(repeat' split) <;> omega
 clear h hev hq
 go_enter Tryz.func81,Tryz.ntmps81
 go_wp2_with fail
 refine hg.mono ?_
 rintro en W1 ⟨rfl,hB1⟩
 have hb1:Below w.heap.size w W1:=hb0.trans (hB1.mono (by omega))
 have hbx1:W1.heap[w.heap.size]?=some (.cells #[.int .i64 2,.string ⟨#[]⟩,.int .i64 t,.int .i64 0,.int .u32 0] 28 (0,0)):=(hB1.block _ hsz).trans hbx
 have hrv:=H.out.below hb1
 have HRv:=hid hrv
 have HIT:=hid hbx1
 obtain ⟨d0,d1,d2,d3,d4⟩:=itemAt hbx1
 have HgE:Hid (r.events.ownBlock ≠ some g):=fun x=>(H.out.ev.cb x).ne (Cb.of H.out.rf.blk) (by decide) rfl
 have HK1:Hid (Kept (fun k=>k=g) w W1):=Kept.ofBelow hb1 _
 have hBg:w.heap.size ≠ g:=by omega
 have hBg2:g ≠ w.heap.size:=by omega
 have HBe:Hid (r.events.ownBlock ≠ some w.heap.size):=fun x=>by have:=(H.out.ev.blk_lt x).1;omega
 have c52:W1.cell? ⟨g,52,none⟩=some (.int .i64 r.n.marks):=hrv.rf.tailAt 8 rfl
 have fz:∀ j,W1.frozen? ⟨g,j,none⟩=false:=hrv.rf.frozen
 have fb:∀ j,W1.frozen? ⟨w.heap.size,j,none⟩=false:=fun j=>frozen_of_row _ _ _ _ _ hbx1
 obtain ⟨B,HB⟩:∃ B,Hid (w.heap.size=B):=⟨_,rfl⟩
 rw [HB.out] at HIT d0 d1 d2 d3 d4 hBg hBg2 fb HBe ⊢
 clear hb0 hbx hsz hg hB1 hb1 hbx1 hrv
 generalize isGoF r.size r.slide r.line r.lined E ⟨#[]⟩=is at *
 generalize ((goKeys r.size r.slide r.line r.lined E).length:Int)=many at *
 have HR2:Hid (REv (W1.setCell ⟨g,52,none⟩ (.int .i64 (wrap64 (r.n.marks+1)))) g r.addMark E):=⟨HRv.out.rf.putTail 8 _ rfl rfl rfl,HRv.out.ev.setCell _ _ (fun hh=>HgE.out hh)⟩
 have HK2:Hid (Kept (fun k=>k=g) w (W1.setCell ⟨g,52,none⟩ (.int .i64 (wrap64 (r.n.marks+1))))):=HK1.out.setCell ⟨g,52,none⟩ _ (fun _=>rfl)
 have HIT2:Hid ((W1.setCell ⟨g,52,none⟩ (.int .i64 (wrap64 (r.n.marks+1)))).heap[B]?=some (.cells #[.int .i64 2,.string ⟨#[]⟩,.int .i64 t,.int .i64 0,.int .u32 0] 28 (0,0))):=by
  show _=_
  rw [heap_setCell_other _ _ _ _ (by simpa using hBg)];exact HIT.out
 have HP:Hid (REv (W1.setCell ⟨g,52,none⟩ (.int .i64 (wrap64 (r.n.marks+1)))) g r.addMark E/\Kept (fun k=>k=g) w (W1.setCell ⟨g,52,none⟩ (.int .i64 (wrap64 (r.n.marks+1))))/\(W1.setCell ⟨g,52,none⟩ (.int .i64 (wrap64 (r.n.marks+1)))).heap[B]?=some (.cells #[.int .i64 2,.string ⟨#[]⟩,.int .i64 T,.int .i64 0,.int .u32 0] 28 (0,0))):=by
  rw [<- HTe.out];exact ⟨HR2.out,HK2.out,HIT2.out⟩
 clear HRv HK1 HIT
 obtain ⟨hR3,hK3,hI3⟩:=HP.out
 have HR3:=hid hR3
 have HK3:=hid hK3
 have HIT3:=hid hI3
 clear hR3 hK3 hI3 HR2 HK2 HIT2 HP
 go_upto_region 17 with fail
 clear c52 fz fb d0 d1 d2 d3 d4
 generalize W1.setCell ⟨g,52,none⟩ (.int .i64 (wrap64 (r.n.marks+1)))=W3 at *
 have hsA:r.addMark.src[n]?=some s:=hs
 have q2:W3.cell? ⟨g,4+n*5+2,none⟩=some (.bool s.reached):=HR3.out.rf.cell (r.addMark.srcAt n 2 s hsA (by omega))
 have q3:W3.cell? ⟨g,4+n*5+3,none⟩=some (.int .i64 s.reach):=HR3.out.rf.cell (r.addMark.srcAt n 3 s hsA (by omega))
 have l3:W3.cell? ⟨g,2,none⟩=some (.int .i64 r.late):=HR3.out.rf.headAt 2 rfl
 obtain ⟨d0,d1,d2,d3,d4⟩:=itemAt HIT3.out
 have hwr:IntKind.i64.wrap (T - r.late)=T - r.late:=by rw [IntKind.wrap_i64];omega
 by_cases hno:s.reached=true/\¬ s.reach < T - r.late
 . obtain ⟨h1,h2⟩:=hno
   have HRr:Hid (rRaise (T - r.late) s=s):=by show _=_;rw [rRaise,if_neg];rintro (hh | hh);(rw [h1] at hh;cases hh);exact h2 hh
   rw [h1] at q2
   go_quiet (fail)
   have HR4:Hid (REv (W3.drewN nq) g (r.addMark.setSrc n (rRaise (T - r.late) s)) E):=by
    have:=HR3.out.below (below_drewN (Below.refl _ W3) nq)
    have hself:r.addMark.setSrc n s=r.addMark:=by
     have:r.addMark.src.set n s=r.addMark.src:=List.ext_getElem? (fun i=>by
      rw [List.getElem?_set]
      split
      . rename_i hh;subst hh
        split
        . exact hsA.symm
        . rename_i h3;exact absurd (List.getElem?_eq_some_iff.1 hsA).1 h3
      . rfl)
     rw [RCells.setSrc,this]
    rw [HRr.out,hself];exact this
   have HK4:=hid (HK3.out.drewN nq)
   clear q2 q3 l3 d0 d1 d2 d3 d4
   generalize W3.drewN nq=W4 at *
   go_wp2_with fail
   refine (HQ.out W4 HR4.out HK4.out).mono ?_
   rintro en W5 ⟨rfl,hq5⟩
   have HQ5:=hid hq5
   clear hq5
   go_wp2_with fail
   go_end0
   exact ⟨rfl,HQ5.out⟩
 . have hyes:s.reached=false\/s.reach < T - r.late:=by
    cases hr:s.reached with
    | false=>exact .inl rfl
    | true=>right;exact Classical.byContradiction (fun hh=>hno ⟨hr,hh⟩)
   have HRr:Hid (rRaise (T - r.late) s=⟨s.opened,s.broken,true,T - r.late,s.rest⟩):=by show _=_;rw [rRaise,if_pos hyes]
   clear hno
   go_cut [142] from 123 to 142 (fun s142 wx=>s142=.bool true/\∃ m,wx=W3.drewN m)
   case first=>
    obtain ⟨re,hre⟩:∃ z,s.reached=z:=⟨_,rfl⟩
    rw [hre] at q2 hyes
    clear hre
    cases re with
    | false=>
      clear hyes
      go_quiet (fail)
      go_wp2
      go_meet
      exact ⟨rfl,_,rfl⟩
    | true=>
      have h2:s.reach < T - r.late:=by rcases hyes with hh | hh;cases hh;exact hh
      clear hyes
      go_quiet (fail)
      go_wp2
      go_meet
      exact ⟨rfl,_,rfl⟩
   case rest=>
    obtain ⟨rfl,m,rfl⟩:=hcut
    have HR4:Hid (REv (W3.drewN m) g r.addMark E):=HR3.out.below (below_drewN (Below.refl _ W3) m)
    have HK4:=hid (HK3.out.drewN m)
    have HIT4:Hid ((W3.drewN m).heap[B]?=some (.cells #[.int .i64 2,.string ⟨#[]⟩,.int .i64 T,.int .i64 0,.int .u32 0] 28 (0,0))):=by show _=_;simpa using HIT3.out
    clear q2 q3 l3 d0 d1 d2 d3 d4
    generalize W3.drewN m=W4 at *
    have q2:W4.cell? ⟨g,4+n*5+2,none⟩=some (.bool s.reached):=HR4.out.rf.cell (r.addMark.srcAt n 2 s hsA (by omega))
    have fz:∀ j,W4.frozen? ⟨g,j,none⟩=false:=HR4.out.rf.frozen
    go_upto_region 19 with fail
    have hs5:(r.addMark.setSrc n ⟨s.opened,s.broken,true,s.reach,s.rest⟩).src[n]?=some ⟨s.opened,s.broken,true,s.reach,s.rest⟩:=r.addMark.setSrc_at n _ (List.getElem?_eq_some_iff.1 hsA).1
    have HR5:Hid (REv (W4.setCell ⟨g,4+n*5+2,none⟩ (.bool true)).drew g (r.addMark.setSrc n ⟨s.opened,s.broken,true,s.reach,s.rest⟩) E):=by
     have h1:REv (W4.setCell ⟨g,4+n*5+2,none⟩ (.bool true)) g (r.addMark.setSrc n ⟨s.opened,s.broken,true,s.reach,s.rest⟩) E:=⟨HR4.out.rf.putSrc n 2 s _ _ hsA (by omega) rfl,HR4.out.ev.setCell _ _ (fun hh=>HgE.out hh)⟩
     exact ⟨h1.rf.congr rfl,h1.ev.congr (fun _ _=>rfl)⟩
    have HK5:Hid (Kept (fun k=>k=g) w (W4.setCell ⟨g,4+n*5+2,none⟩ (.bool true)).drew):=(HK4.out.setCell ⟨g,_,none⟩ _ (fun _=>rfl)).drew
    have HIT5:Hid ((W4.setCell ⟨g,4+n*5+2,none⟩ (.bool true)).drew.heap[B]?=some (.cells #[.int .i64 2,.string ⟨#[]⟩,.int .i64 T,.int .i64 0,.int .u32 0] 28 (0,0))):=by
     show (W4.setCell ⟨g,4+n*5+2,none⟩ (.bool true)).heap[B]?=_
     rw [heap_setCell_other _ _ _ _ (by simpa using hBg)];exact HIT4.out
    refine wp_region_still_tail 11 (by kernel_rfl) (by kernel_rfl) ?_
    simp only [List.take_succ_cons,List.take_zero,List.drop_succ_cons,List.drop_zero]
    change wpStill Tryz.prog _ (W4.setCell ⟨g,4+n*5+2,none⟩ (.bool true)).drew (fun a'=>wpList Tryz.prog _ _ _ a' (W4.setCell ⟨g,4+n*5+2,none⟩ (.bool true)).drew) _ _
    clear q2 fz HR4 HK4 HIT4
    generalize (W4.setCell ⟨g,4+n*5+2,none⟩ (.bool true)).drew=W5 at *
    have q3:W5.cell? ⟨g,4+n*5+3,none⟩=some (.int .i64 s.reach):=HR5.out.rf.cell (RCells.srcAt _ n 3 ⟨s.opened,s.broken,true,s.reach,s.rest⟩ hs5 (by omega))
    have l3:W5.cell? ⟨g,2,none⟩=some (.int .i64 r.late):=HR5.out.rf.headAt 2 rfl
    have fz:∀ j,W5.frozen? ⟨g,j,none⟩=false:=HR5.out.rf.frozen
    obtain ⟨d0,d1,d2,d3,d4⟩:=itemAt HIT5.out
    repeat still_step
    refine wpStill_nil ?_
    have HR6:Hid (REv (W5.setCell ⟨g,4+n*5+3,none⟩ (.int .i64 (T - r.late))) g (r.addMark.setSrc n (rRaise (T - r.late) s)) E):=by
     have h1:=HR5.out.rf.putSrc n 3 _ ⟨s.opened,s.broken,true,T - r.late,s.rest⟩ (.int .i64 (T - r.late)) hs5 (by omega) rfl
     rw [RCells.setSrc_setSrc] at h1
     rw [HRr.out]
     exact ⟨h1,HR5.out.ev.setCell _ _ (fun hh=>HgE.out hh)⟩
    have HK6:Hid (Kept (fun k=>k=g) w (W5.setCell ⟨g,4+n*5+3,none⟩ (.int .i64 (T - r.late)))):=HK5.out.setCell ⟨g,_,none⟩ _ (fun _=>rfl)
    go_wp2_with fail
    generalize W5.setCell ⟨g,4+n*5+3,none⟩ (.int .i64 (T - r.late))=W6 at *
    refine (HQ.out W6 HR6.out HK6.out).mono ?_
    rintro en W7 ⟨rfl,hq5⟩
    have HQ5:=hid hq5
    clear hq5 q3 l3 fz d0 d1 d2 d3 d4
    go_wp2_with fail
    go_end0
    exact ⟨rfl,HQ5.out⟩
theorem ritem_mark_of (g n:Nat) (r:RCells) (s:RSrc) (E:List Ev) (t:Int) (w:World) (h:REv w g r E) (hs:r.src[n]?=some s) (hE:E.length<=200000) (hev:∀ x ∈ E,evOk x) (hc1:1<=r.slide) (hc2:r.slide<=r.size) (hc3:r.size<=1099511627776) (hlt1:0<=r.late) (hlt2:r.late<=1099511627776) (Q:World->Prop)
 (hq:∀ W,REv W g (r.addMark.setSrc n (rRaise (clampT t - r.late) s)) E->Kept (fun k=>k=g) w W->Calls Tryz.prog 80 #[.pointer (some ⟨g,0,none⟩)] W fun en w'=>en=.returned (.tuple #[])/\Q w') :
 Calls Tryz.prog 81 #[.pointer (some ⟨g,0,none⟩),.int .i64 n,.agg #[.int .i64 2,.string ⟨#[]⟩,.int .i64 t,.int .i64 0,.int .u32 0]] w fun en w'=>en=.returned (.tuple #[])/\Q w':=by
 by_cases h1:t < -2305843009213693952
 . exact ritem_mark_lo g n r s E t w h hs hE hev hc1 hc2 hc3 hlt1 hlt2 h1 Q hq
 . by_cases h2:2305843009213693952 < t
   . exact ritem_mark_hi g n r s E t w h hs hE hev hc1 hc2 hc3 hlt1 hlt2 h1 h2 Q hq
   . exact ritem_mark_mid g n r s E t w h hs hE hev hc1 hc2 hc3 hlt1 hlt2 h1 h2 Q hq
end Go.Proofs.YtcfngdnmpogaoaaGreat
