import Derived.Test.YtcfngdnmpogaoaaGreatTkU10
import Derived.Test.YtcfngdnmpogaoaaGreatTkT08
namespace Go.Proofs.YtcfngdnmpogaoaaGreat
open Go.RowKit Go.MuLone
set_option maxHeartbeats 6400000
set_option maxRecDepth 20000
def SCells.addRange (r:SCells):SCells:={ r with n:={ r.n with range:=wrap64 (r.n.range+1) } }
def SCells.addLate (r:SCells):SCells:={ r with n:={ r.n with late:=wrap64 (r.n.late+1) } }
def SCells.addFull (r:SCells):SCells:={ r with n:={ r.n with full:=wrap64 (r.n.full+1) } }
theorem raise_flow (g n:Nat) (r:SCells) (s:SSrc) (gs es:List RunX) (t:Int) (W:World) (h:FlowAt W g r gs es) (hs:r.src[n]?=some s) :
 Calls Tryz.prog 98 #[.pointer (some ⟨g,6+n*5+3,none⟩),.int .i64 t] W fun e w'=>e=.returned (.tuple #[])/\FlowAt w' g (r.setSrc n (s.raised t)) gs es/\Kept (fun k=>k=g) W w':=by
 have c3:W.cell? ⟨g,6+n*5+3,none⟩=some (.int .i64 s.time):=h.sf.cell (SCells.srcAt _ n 3 s hs (by omega))
 have c4:W.cell? ⟨g,6+n*5+3+1,none⟩=some (.bool s.is):=h.sf.cell (SCells.srcAt _ n 4 s hs (by omega))
 by_cases hup:s.is=false\/s.time < t
 . refine (raise_yes g _ s.time t s.is W c3 c4 h.sf.frozen hup).mono ?_
   rintro e w' ⟨rfl,rfl⟩
   have k7:Kept (fun k=>k=g) W ((W.setCell ⟨g,6+n*5+3,none⟩ (.int .i64 t)).setCell ⟨g,6+n*5+3+1,none⟩ (.bool true)):=by
    refine Kept.setCell ?_ ⟨g,_,none⟩ _ (fun _=>rfl)
    refine Kept.setCell ?_ ⟨g,_,none⟩ _ (fun _=>rfl)
    exact Kept.refl _ W
   refine ⟨rfl,?_,k7⟩
   rw [SSrc.raised,if_pos hup]
   exact h.turn k7 (h.sf.putMoment n s t true hs) rfl rfl
 . have hsi:s.is=true:=by cases h:s.is <;> simp [h] at hup ⊢
   refine (raise_no g _ s.time t W c3 (by rw [c4,hsi]) (fun h=>hup (.inr h))).mono ?_
   rintro e w' ⟨rfl,rfl⟩
   refine ⟨rfl,?_,Kept.refl _ _⟩
   rw [SSrc.raised,if_neg hup,setSrc_self _ _ _ hs]
   exact h
def evOut (e:Ev):Prop:=e.t < -2305843009213693952\/2305843009213693952 < e.t
def evLate (r:SCells) (e:Ev):Prop:=r.li=true/\e.t < r.lt
def evFull (keys:Int) (gs:List RunS) (e:Ev):Prop:=keys<=(gs.length:Int)/\∀ x ∈ gs,x.key ≠ e.key
def EvRel (r:SCells) (gs:List RunS) (n:Nat) (s:SSrc) (e:Ev) (r':SCells) (gs':List RunS):Prop:=
 (evOut e/\r'=r.addRange/\gs'=gs)\/(¬ evOut e/\evLate r e/\r'=r.addLate.setSrc n (s.raised e.t)/\gs'=gs) \/
 (¬ evOut e/\¬ evLate r e/\evFull r.keys gs e/\r'=r.addFull/\gs'=gs) \/
 (¬ evOut e/\¬ evLate r e/\¬ evFull r.keys gs e/\(∃ gv,r'=(r.addTaken.setGoing gv).setSrc n (s.raised e.t))/\KeepRel gs gs' e (winFirst r.size r.slide e.t) (winLast r.slide e.t))
theorem full_iff (keys:Int) (gs:List RunX) (e:Ev):fullFor (ksOf gs).length keys (ksOf gs) e.key=true ↔ evFull keys (rsOf gs) e:=by
 unfold fullFor evFull
 simp only [Bool.and_eq_true,decide_eq_true_eq,Bool.not_eq_true',List.any_eq_false,ksOf,rsOf,List.length_map,List.mem_map,Bool.not_eq_true]
 constructor
 . rintro ⟨h1,h2⟩
   refine ⟨h1,?_⟩
   rintro x ⟨y,hy,rfl⟩ e'
   have:=h2 ⟨y.d.R,y.r.key⟩ ⟨y,hy,rfl⟩
   rw [keyEq_false] at this
   exact this e'
 . rintro ⟨h1,h2⟩
   refine ⟨h1,?_⟩
   rintro x ⟨y,hy,rfl⟩
   rw [keyEq_false]
   exact h2 _ ⟨y,hy,rfl⟩
structure EvOk (r:SCells) (gs:List RunX) (e:Ev):Prop where
 len:gs.length<=1000000
 tag:e.tag < 4294967296
 s1:1<=r.slide
 s2:r.slide<=r.size
 s3:r.size<=1099511627776
 keep:¬ evOut e->¬ evLate r e->∀ x ∈ gs,x.r.key=e.key->KeepOk x.r (winFirst r.size r.slide e.t) (winLast r.slide e.t)
theorem doEvent_any (g n:Nat) (r:SCells) (s:SSrc) (gs es:List RunX) (e:Ev) (w:World) (h:FlowAt w g r gs es) (hs:r.src[n]?=some s) (hok:EvOk r gs e) :
 Calls Tryz.prog 99 #[.pointer (some ⟨g,0,none⟩),.pointer (some ⟨g,6+n*5,none⟩),evItem e] w fun en w'=>en=.returned (.tuple #[])/\∃ r' gs',EvRel r (rsOf gs) n s e r' (rsOf gs')/\FlowAt w' g r' gs' es /\
  (∀ k,flowFoot g r' gs' es k->flowFoot g r gs es k\/w.heap.size<=k)/\Kept (flowFoot g r gs es) w w':=by
 unfold evItem itemV
 have hglt:=h.sf.lt
 have hi1:=heap_alloc_new w (.cells #[.int .i64 1,.string e.key,.int .i64 e.t,.int .i64 e.v,.int .u32 (e.tag:Int)] 28)
 have B1:Below w.heap.size w (w.alloc (.cells #[.int .i64 1,.string e.key,.int .i64 e.t,.int .i64 e.v,.int .u32 (e.tag:Int)] 28)):=(Below.refl _ w).alloc (Nat.le_refl _) _
 have H1:=hid (h.below B1)
 have HB1:=hid B1
 have hBs:w.heap.size < (w.alloc (.cells #[.int .i64 1,.string e.key,.int .i64 e.t,.int .i64 e.v,.int .u32 (e.tag:Int)] 28)).heap.size:=by simp
 have H0:=hid h
 have HOk:=hid hok
 clear h hok B1
 go_enter Tryz.func99,Tryz.ntmps99
 go_upto_region 4 with fail
 have hgB:w.heap.size ≠ g:=by omega
 obtain ⟨B,HBe⟩:∃ B,Hid (w.heap.size=B):=⟨_,rfl⟩
 rw [HBe.out] at hi1 HB1 hBs hgB ⊢
 generalize w.alloc (.cells #[.int .i64 1,.string e.key,.int .i64 e.t,.int .i64 e.v,.int .u32 (e.tag:Int)] 28)=W1 at *
 have HI1:=hid hi1
 obtain ⟨d0,d1,d2,d3,d4⟩:=itemAt hi1
 clear hi1
 have HK1:Hid (Kept (fun k=>k=g) w W1):=Kept.ofBelow (by rw [HBe.out];exact HB1.out) _
 have HFoot:Hid (∀ (r':SCells),r'.going=r.going->r'.ended=r.ended->∀ k,flowFoot g r' gs es k->flowFoot g r gs es k\/w.heap.size<=k):=fun r' h1 h2 k hk=>by
  left
  rcases hk with hk | hk | hk | hk
  . exact .inl hk
  . rw [h1] at hk;exact .inr (.inl hk)
  . rw [h2] at hk;exact .inr (.inr (.inl hk))
  . exact .inr (.inr (.inr hk))
 by_cases hout:evOut e
 . have hfin:Hid (∀ w',FlowAt w' g r.addRange gs es->Kept (fun k=>k=g) w w'->∃ r' gs',EvRel r (rsOf gs) n s e r' (rsOf gs')/\FlowAt w' g r' gs' es/\(∀ k,flowFoot g r' gs' es k->flowFoot g r gs es k\/w.heap.size<=k)/\Kept (flowFoot g r gs es) w w'):=fun w' hf hk=>⟨r.addRange,gs,.inl ⟨hout,rfl,rfl⟩,hf,HFoot.out _ rfl rfl,hk.mono (fun k _ h=>.inl h)⟩
   have hadd:=add_any g 52 r.n.range 1 W1 (H1.out.sf.tailAt 6 rfl) (H1.out.sf.frozen _)
   by_cases hlo:e.t < -2305843009213693952
   . go_wp2_with fail
     refine hadd.mono ?_
     rintro en W2 ⟨rfl,rfl⟩
     have k2:Kept (fun k=>k=g) W1 (W1.setCell ⟨g,52,none⟩ (.int .i64 (wrap64 (r.n.range+1)))):=(Kept.refl _ W1).setCell ⟨g,52,none⟩ _ (fun _=>rfl)
     have HF2:Hid (FlowAt (W1.setCell ⟨g,52,none⟩ (.int .i64 (wrap64 (r.n.range+1)))) g r.addRange gs es):=H1.out.turn k2 (H1.out.sf.putTail 6 _ rfl rfl rfl) rfl rfl
     have HK2:=hid (HK1.out.trans k2)
     clear k2 hadd d0 d1 d2 d3 d4
     generalize W1.setCell ⟨g,52,none⟩ (.int .i64 (wrap64 (r.n.range+1)))=W2 at *
     go_wp2
     go_end0
     exact ⟨rfl,hfin.out _ HF2.out HK2.out⟩
   . have hhi:2305843009213693952 < e.t:=by unfold evOut at hout;omega
     go_wp2_with fail
     refine hadd.mono ?_
     rintro en W2 ⟨rfl,rfl⟩
     have k2:Kept (fun k=>k=g) W1 (W1.setCell ⟨g,52,none⟩ (.int .i64 (wrap64 (r.n.range+1)))):=(Kept.refl _ W1).setCell ⟨g,52,none⟩ _ (fun _=>rfl)
     have HF2:Hid (FlowAt (W1.setCell ⟨g,52,none⟩ (.int .i64 (wrap64 (r.n.range+1)))) g r.addRange gs es):=H1.out.turn k2 (H1.out.sf.putTail 6 _ rfl rfl rfl) rfl rfl
     have HK2:=hid (HK1.out.trans k2)
     clear k2 hadd d0 d1 d2 d3 d4
     generalize W1.setCell ⟨g,52,none⟩ (.int .i64 (wrap64 (r.n.range+1)))=W2 at *
     go_wp2
     go_end0
     exact ⟨rfl,hfin.out _ HF2.out HK2.out⟩
 . have hlo:¬ e.t < -2305843009213693952:=by unfold evOut at hout;omega
   have hhi:¬ 2305843009213693952 < e.t:=by unfold evOut at hout;omega
   have HOut:=hid hout
   clear hout
   have q47:=H1.out.sf.tailAt 1 rfl
   have q46:=H1.out.sf.tailAt 0 rfl
   go_upto_region 6 with fail
   by_cases hlate:evLate r e
   . have HLate:=hid hlate
     obtain ⟨l1,l2⟩:=hlate
     rw [l1] at q47
     have hd:decide (e.t < r.lt)=true:=decide_eq_true l2
     clear l1 l2
     generalize hlt:r.lt=lt at *
     have HLt:=hid hlt
     clear hlt
     go_quiet (fail)
     have HF2:Hid (FlowAt (W1.drewN nq) g r gs es):=H1.out.congr (fun k _=>by simp)
     have HK2:=hid (HK1.out.drewN nq)
     have HI2:Hid ((W1.drewN nq).heap[B]?=some (.cells #[.int .i64 1,.string e.key,.int .i64 e.t,.int .i64 e.v,.int .u32 (e.tag:Int)] 28 (0,0))):=by show _=_;simpa using HI1.out
     generalize W1.drewN nq=W2 at *
     clear q46 q47 d0 d1 d2 d3 d4 hd H1 HI1 HK1
     have hadd:=add_any g 51 r.n.late 1 W2 (HF2.out.sf.tailAt 5 rfl) (HF2.out.sf.frozen _)
     go_wp2_with fail
     refine hadd.mono ?_
     rintro en W3 ⟨rfl,rfl⟩
     have k3:Kept (fun k=>k=g) W2 (W2.setCell ⟨g,51,none⟩ (.int .i64 (wrap64 (r.n.late+1)))):=(Kept.refl _ W2).setCell ⟨g,51,none⟩ _ (fun _=>rfl)
     have HF3:Hid (FlowAt (W2.setCell ⟨g,51,none⟩ (.int .i64 (wrap64 (r.n.late+1)))) g r.addLate gs es):=HF2.out.turn k3 (HF2.out.sf.putTail 5 _ rfl rfl rfl) rfl rfl
     have HK3:=hid (HK2.out.trans k3)
     have HI3:Hid ((W2.setCell ⟨g,51,none⟩ (.int .i64 (wrap64 (r.n.late+1)))).heap[B]?=some (.cells #[.int .i64 1,.string e.key,.int .i64 e.t,.int .i64 e.v,.int .u32 (e.tag:Int)] 28 (0,0))):=blkOther HI2.out g 51 _ hgB
     clear k3 hadd HF2 HK2 HI2
     generalize W2.setCell ⟨g,51,none⟩ (.int .i64 (wrap64 (r.n.late+1)))=W3 at *
     obtain ⟨d0,d1,d2,d3,d4⟩:=itemAt HI3.out
     go_upto_region 8 with fail
     refine wp_region_still_tail 5 (by kernel_rfl) (by kernel_rfl) ?_
     simp only [List.take_succ_cons,List.take_zero,List.drop_succ_cons,List.drop_zero]
     change wpStill Tryz.prog _ W3.drew (fun a'=>wpList Tryz.prog _ _ _ a' W3.drew) _ _
     have d2:W3.drew.cell? ⟨B,2,none⟩=some (.int .i64 e.t):=d2
     have HF4:Hid (FlowAt W3.drew g r.addLate gs es):=HF3.out.congr (fun _ _=>rfl)
     have HK4:=hid HK3.out.drew
     clear d0 d1 d3 d4 HF3 HK3 HI3
     generalize W3.drew=W4 at *
     repeat still_step
     refine wpStill_nil ?_
     have hra:=raise_flow g n r.addLate s gs es e.t W4 HF4.out hs
     clear d2
     go_wp2_with fail
     refine hra.mono ?_
     rintro en W5 ⟨rfl,hf5,k5⟩
     have HF5:=hid hf5
     have HK5:=hid (HK4.out.trans k5)
     clear hf5 k5 hra
     go_wp2
     go_end0
     exact ⟨rfl,r.addLate.setSrc n (s.raised e.t),gs,.inr (.inl ⟨HOut.out,HLate.out,rfl,rfl⟩),HF5.out,HFoot.out _ rfl rfl,HK5.out.mono (fun k _ h=>.inl h)⟩
   . have HLate:=hid hlate
     go_cut [34] from 35 to 49 (fun s34 wx=>s34=.bool false/\FlowAt wx g r gs es/\Kept (fun k=>k=g) w wx/\wx.heap[B]?=some (.cells #[.int .i64 1,.string e.key,.int .i64 e.t,.int .i64 e.v,.int .u32 (e.tag:Int)] 28 (0,0)))
     case first=>
      cases hli:r.li with
      | false=>
        rw [hli] at q47
        clear hli
        go_quiet (fail)
        go_wp2
        go_meet
        exact ⟨rfl,H1.out.congr (fun k _=>by simp),HK1.out.drewN nq,by simpa using HI1.out⟩
      | true=>
        rw [hli] at q47
        have hnl:¬ e.t < r.lt:=fun h=>hlate ⟨hli,h⟩
        have hd:decide (e.t < r.lt)=false:=decide_eq_false hnl
        clear hli hlate
        generalize r.lt=lt at *
        go_quiet (fail)
        go_wp2
        go_meet
        exact ⟨rfl,H1.out.congr (fun k _=>by simp),HK1.out.drewN nq,by simpa using HI1.out⟩
     case rest=>
      obtain ⟨rfl,hf2,k2,hi2⟩:=hcut
      have HF2:=hid hf2
      have HK2:=hid k2
      have HI2:=hid hi2
      clear q46 q47 d0 d1 d2 d3 d4 H1 HI1 HK1 hf2 k2 hi2 hlate
      obtain ⟨d0,d1,d2,d3,d4⟩:=itemAt HI2.out
      have hfl:=isFullFor_any g r (ksOf gs) e.key wc HF2.out.sf (by rw [ksOf_R];exact HF2.out.going) HF2.out.keys (by simp [ksOf];have:=HOk.out.len;omega)
      cases hfb:fullFor (ksOf gs).length r.keys (ksOf gs) e.key with
      | true=>
        rw [hfb] at hfl
        have HFull:=hid ((full_iff r.keys gs e).1 hfb)
        clear hfb
        go_wp2_with fail
        refine hfl.mono ?_
        rintro en W3 ⟨rfl,hb3⟩
        have HF3:=hid (HF2.out.below hb3)
        have HK3:Hid (Kept (fun k=>k=g) w W3):=HK2.out.step (Kept.ofBelow hb3 (fun _=>False)) (fun _ _ h=>h.elim)
        clear hfl hb3 d0 d1 d2 d3 d4 HF2 HK2 HI2
        have hadd:=add_any g 53 r.n.full 1 W3 (HF3.out.sf.tailAt 7 rfl) (HF3.out.sf.frozen _)
        go_wp2_with fail
        refine hadd.mono ?_
        rintro en W4 ⟨rfl,rfl⟩
        have k4:Kept (fun k=>k=g) W3 (W3.setCell ⟨g,53,none⟩ (.int .i64 (wrap64 (r.n.full+1)))):=(Kept.refl _ W3).setCell ⟨g,53,none⟩ _ (fun _=>rfl)
        have HF4:Hid (FlowAt (W3.setCell ⟨g,53,none⟩ (.int .i64 (wrap64 (r.n.full+1)))) g r.addFull gs es):=HF3.out.turn k4 (HF3.out.sf.putTail 7 _ rfl rfl rfl) rfl rfl
        have HK4:=hid (HK3.out.trans k4)
        clear k4 hadd HF3 HK3
        generalize W3.setCell ⟨g,53,none⟩ (.int .i64 (wrap64 (r.n.full+1)))=W4 at *
        go_wp2
        go_end0
        exact ⟨rfl,r.addFull,gs,.inr (.inr (.inl ⟨HOut.out,HLate.out,HFull.out,rfl,rfl⟩)),HF4.out,HFoot.out _ rfl rfl,HK4.out.mono (fun k _ h=>.inl h)⟩
      | false=>
        rw [hfb] at hfl
        have HFull:Hid (¬ evFull r.keys (rsOf gs) e):=fun h=>by rw [(full_iff r.keys gs e).2 h] at hfb;cases hfb
        clear hfb
        go_wp2_with fail
        refine hfl.mono ?_
        rintro en W3 ⟨rfl,hb3⟩
        have HF3:=hid (HF2.out.below hb3)
        have HK3:Hid (Kept (fun k=>k=g) w W3):=HK2.out.step (Kept.ofBelow hb3 (fun _=>False)) (fun _ _ h=>h.elim)
        have HI3:=hid (blkBelow HI2.out hb3)
        clear hfl hb3 d0 d1 d2 d3 d4 HF2 HK2 HI2
        have hadd:=add_any g 50 r.n.taken 1 W3 (HF3.out.sf.tailAt 4 rfl) (HF3.out.sf.frozen _)
        go_wp2_with fail
        refine hadd.mono ?_
        rintro en W4 ⟨rfl,rfl⟩
        have k4:Kept (fun k=>k=g) W3 (W3.setCell ⟨g,50,none⟩ (.int .i64 (wrap64 (r.n.taken+1)))):=(Kept.refl _ W3).setCell ⟨g,50,none⟩ _ (fun _=>rfl)
        have HF4:Hid (FlowAt (W3.setCell ⟨g,50,none⟩ (.int .i64 (wrap64 (r.n.taken+1)))) g r.addTaken gs es):=HF3.out.turn k4 (HF3.out.sf.putTail 4 _ rfl rfl rfl) rfl rfl
        have HK4:=hid (HK3.out.trans k4)
        have HI4:Hid ((W3.setCell ⟨g,50,none⟩ (.int .i64 (wrap64 (r.n.taken+1)))).heap[B]?=some (.cells #[.int .i64 1,.string e.key,.int .i64 e.t,.int .i64 e.v,.int .u32 (e.tag:Int)] 28 (0,0))):=blkOther HI3.out g 50 _ hgB
        clear k4 hadd HF3 HK3 HI3
        generalize W3.setCell ⟨g,50,none⟩ (.int .i64 (wrap64 (r.n.taken+1)))=W4 at *
        obtain ⟨d0,d1,d2,d3,d4⟩:=itemAt HI4.out
        have hkp:=keep_any g r.addTaken gs es e W4 HF4.out HOk.out.len HOk.out.tag HOk.out.s1 HOk.out.s2 HOk.out.s3 (by have:=HOk.out.s3;show _<=e.t - r.size;omega) (by omega) (HOk.out.keep HOut.out HLate.out)
        unfold evItem itemV at hkp
        go_wp2_with fail
        refine hkp.mono ?_
        rintro en W5 ⟨rfl,gv,gs',hf5,hkr,hft5,k5⟩
        have hBf:∀ k,flowFoot g r.addTaken gs es k->k ≠ B:=fun k hk=>by
         have h0:=H0.out.lt hk
         have:=HBe.out;omega
        have HF5:=hid hf5
        have HKR:=hid hkr
        have HI5:=hid ((k5.block B (blkLt HI4.out) (fun h=>hBf B h rfl)).trans HI4.out)
        have HK5:Hid (Kept (flowFoot g r gs es) w W5):=(HK4.out.mono (fun k _ h=>.inl h)).step k5 (fun k _ h=>h)
        have HFt:Hid (∀ k,flowFoot g (r.addTaken.setGoing gv) gs' es k->flowFoot g r gs es k\/w.heap.size<=k):=fun k hk=>(hft5 k hk).elim (fun h=>.inl h) (fun h=>.inr (by have:=HK4.out.size;omega))
        clear hf5 hkr hft5 k5 hkp d0 d1 d2 d3 d4 HF4 HK4 HI4
        obtain ⟨d0,d1,d2,d3,d4⟩:=itemAt HI5.out
        go_upto_region 3 with fail
        refine wp_region_still_tail 5 (by kernel_rfl) (by kernel_rfl) ?_
        simp only [List.take_succ_cons,List.take_zero,List.drop_succ_cons,List.drop_zero]
        change wpStill Tryz.prog _ W5.drew (fun a'=>wpList Tryz.prog _ _ _ a' W5.drew) _ _
        have d2:W5.drew.cell? ⟨B,2,none⟩=some (.int .i64 e.t):=d2
        have HF6:Hid (FlowAt W5.drew g (r.addTaken.setGoing gv) gs' es):=HF5.out.congr (fun _ _=>rfl)
        have HK6:=hid HK5.out.drew
        clear d0 d1 d3 d4 HF5 HK5 HI5
        generalize W5.drew=W6 at *
        repeat still_step
        refine wpStill_nil ?_
        have hra:=raise_flow g n (r.addTaken.setGoing gv) s gs' es e.t W6 HF6.out hs
        clear d2
        go_wp2_with fail
        refine hra.mono ?_
        rintro en W7 ⟨rfl,hf7,k7⟩
        have HF7:=hid hf7
        have HK7:Hid (Kept (flowFoot g r gs es) w W7):=HK6.out.step k7 (fun k _ h=>.inl h)
        clear hf7 k7 hra
        go_wp2
        go_end0
        refine ⟨rfl,(r.addTaken.setGoing gv).setSrc n (s.raised e.t),gs',.inr (.inr (.inr ⟨HOut.out,HLate.out,HFull.out,⟨gv,rfl⟩,HKR.out⟩)),HF7.out,fun k hk=>HFt.out k ?_,HK7.out⟩
        rcases hk with hk | hk | hk | hk
        . exact .inl hk
        . exact .inr (.inl hk)
        . exact .inr (.inr (.inl hk))
        . exact .inr (.inr (.inr hk))
end Go.Proofs.YtcfngdnmpogaoaaGreat
namespace Go.Proofs.YtcfngdnmpogaoaaGreat
open Go.RowKit
structure SrcS where
 opened:Bool
 broken:Bool
 time:Int
 is:Bool
structure St where
 size:Int
 slide:Int
 late:Int
 keys:Int
 src:List SrcS
 lt:Int
 li:Bool
 gs:List RunS
 es:List RunS
 n:RCounts
def srcS (s:SSrc):SrcS:=⟨s.opened,s.broken,s.time,s.is⟩
def stOf (r:SCells) (gs es:List RunX):St:=⟨r.size,r.slide,r.late,r.keys,r.src.map srcS,r.lt,r.li,rsOf gs,rsOf es,r.n⟩
def toldB (T:Option Int) (x:Int):Bool:=match T with
 | some t=>decide (x<=t)
 | none=>false
theorem down_le (t n:Int) (hn:1<=n):down t n<=t/\t < down t n+n:=by
 unfold down
 have:=Int.emod_nonneg t (show n ≠ 0 by omega)
 have:=Int.emod_lt_of_pos t (show 0 < n by omega)
 omega
theorem down_mono (s t n:Int) (hn:1<=n) (h:s<=t):down s n<=down t n:=by
 unfold down
 have e1:=Int.mul_ediv_add_emod s n
 have e2:=Int.mul_ediv_add_emod t n
 have:s / n<=t / n:=Int.ediv_le_ediv (by omega) h
 have:=Int.mul_le_mul_of_nonneg_left this (show 0<=n by omega)
 omega
theorem down_dvd (t n:Int):n ∣ down t n:=by
 unfold down
 have e2:=Int.mul_ediv_add_emod t n
 exact ⟨t / n,by omega⟩
theorem mul_gap (a b n:Int) (hn:1<=n) (ha:n ∣ a) (hb:n ∣ b) (h:a < b):a+n<=b:=by
 obtain ⟨x,rfl⟩:=ha
 obtain ⟨y,rfl⟩:=hb
 have hxy:x < y:=by
  refine Int.lt_of_not_ge (fun hge=>?_)
  have:=Int.mul_le_mul_of_nonneg_left hge (show 0<=n by omega)
  omega
 have:=Int.mul_le_mul_of_nonneg_left (show x+1<=y by omega) (show 0<=n by omega)
 rw [Int.mul_add,Int.mul_one] at this
 exact this
theorem winFirst_mono (size slide s t:Int) (hn:1<=slide) (h:s<=t):winFirst size slide s<=winFirst size slide t:=by
 unfold winFirst
 have:=down_mono (s - size) (t - size) slide hn (by omega)
 omega
theorem winLast_mono (slide s t:Int) (hn:1<=slide) (h:s<=t):winLast slide s<=winLast slide t:=down_mono s t slide hn h
theorem winFirst_gt (size slide t:Int) (hn:1<=slide):t < winFirst size slide t+size/\winFirst size slide t+size<=t+slide:=by
 unfold winFirst
 obtain ⟨h1,h2⟩:=down_le (t - size) slide hn
 omega
theorem winLast_le (slide t:Int) (hn:1<=slide):winLast slide t<=t/\t < winLast slide t+slide:=down_le t slide hn
theorem winFirst_le_last (size slide t:Int) (hn:1<=slide) (hs:slide<=size):winFirst size slide t<=winLast slide t:=by
 unfold winFirst winLast
 obtain ⟨h1,h2⟩:=down_le (t - size) slide hn
 obtain ⟨h3,h4⟩:=down_le t slide hn
 by_cases h:down (t - size) slide < down t slide
 . exact mul_gap _ _ slide hn (down_dvd _ _) (down_dvd _ _) h
 . omega
structure RunGood (size slide:Int) (T:Option Int) (r:RunS):Prop where
 ne:r.ps ≠ []
 sorted:Sorted r.ps
 pane:∀ p ∈ r.ps,p.evs ≠ []/\∀ e ∈ p.evs,e.key=r.key/\winFirst size slide e.t=p.first/\winLast slide e.t=p.last
 rem:∀ p ∈ r.ps,toldB T (p.last+size)=false
 ins:∀ (i:Nat) p,r.ps[i]?=some p->(i < r.inside ↔ toldB T (p.first+size)=true)
 insLe:r.inside<=r.ps.length
 nxt:0 < r.inside->∀ t,T=some t->r.next=down (t - size) slide+slide
structure ConfOk (st:St):Prop where
 s1:1<=st.slide
 s2:st.slide<=st.size
 s3:st.size<=1099511627776
 l1:0<=st.late
 l2:st.late<=1099511627776
 k1:1<=st.keys
 k2:st.keys<=16
def runEvs (rs:List RunS):List Ev:=rs.flatMap fun r=>evsOf r.ps
def evOk (e:Ev):Prop:=e.fits/\-2305843009213693952<=e.t/\e.t<=2305843009213693952
def untold (T:Option Int) (size slide:Int) (E:List Ev):List Ev:=E.filter fun e=>!toldB T (winLast slide e.t+size)
def RunLt (r r':RunS):Prop:=r.key=r'.key->∀ p ∈ r.ps,∀ p' ∈ r'.ps,p.last < p'.first
structure Mod (st:St) (E:List Ev) (T:Option Int):Prop where
 conf:ConfOk st
 gsK:(st.gs.map RunS.key).Nodup
 gsLen:(st.gs.length:Int)<=st.keys
 good:∀ r ∈ st.es++st.gs,RunGood st.size st.slide T r
 perm:(runEvs (st.es++st.gs)).Perm (untold T st.size st.slide E)
 order:(st.es++st.gs).Pairwise RunLt
 gsU:∀ r ∈ st.gs,∃ p ∈ r.ps,st.li=false\/st.lt < p.last+st.size
 esF:∀ r ∈ st.es,st.li=true/\∀ p ∈ r.ps,p.last+st.size<=st.lt
 told:∀ t,T=some t->st.li=true/\t<=st.lt
 evs:∀ e ∈ E,evOk e
theorem evsOf_append (a b:List Pane):evsOf (a++b)=evsOf a++evsOf b:=by simp [evsOf]
theorem evsOf_cons (p:Pane) (b:List Pane):evsOf (p :: b)=p.evs++evsOf b:=by simp [evsOf]
theorem runEvs_append (a b:List RunS):runEvs (a++b)=runEvs a++runEvs b:=by simp [runEvs]
theorem runEvs_cons (r:RunS) (b:List RunS):runEvs (r :: b)=evsOf r.ps++runEvs b:=by simp [runEvs]
theorem ps_le_evs (ps:List Pane) (h:∀ p ∈ ps,p.evs ≠ []):ps.length<=(evsOf ps).length:=by
 induction ps with
 | nil=>simp
 | cons p ps ih=>
   rw [evsOf_cons,List.length_append,List.length_cons]
   have:=ih (fun q hq=>h q (by simp [hq]))
   have:=List.length_pos_iff.2 (h p (by simp))
   omega
theorem evs_le (ps:List Pane) (p:Pane) (h:p ∈ ps):p.evs.length<=(evsOf ps).length:=by
 obtain ⟨a,b,rfl⟩:=List.append_of_mem h
 rw [evsOf_append,evsOf_cons,List.length_append,List.length_append];omega
theorem run_le (rs:List RunS) (r:RunS) (h:r ∈ rs):(evsOf r.ps).length<=(runEvs rs).length:=by
 obtain ⟨a,b,rfl⟩:=List.append_of_mem h
 rw [runEvs_append,runEvs_cons,List.length_append,List.length_append];omega
theorem runs_le (rs:List RunS) (h:∀ r ∈ rs,r.ps ≠ []/\∀ p ∈ r.ps,p.evs ≠ []):rs.length<=(runEvs rs).length:=by
 induction rs with
 | nil=>simp
 | cons r rs ih=>
   rw [runEvs_cons,List.length_append,List.length_cons]
   have:=ih (fun q hq=>h q (by simp [hq]))
   have h1:=h r (by simp)
   have:=ps_le_evs r.ps h1.2
   have:=List.length_pos_iff.2 h1.1
   omega
theorem Mod.runLen {st:St} {E:List Ev} {T:Option Int} (h:Mod st E T):(runEvs (st.es++st.gs)).length<=E.length:=by
 rw [h.perm.length_eq];exact List.length_filter_le _ _
theorem Mod.mem {st:St} {E:List Ev} {T:Option Int} (h:Mod st E T) {r:RunS} (hr:r ∈ st.es++st.gs) {p:Pane} (hp:p ∈ r.ps) {e:Ev} (he:e ∈ p.evs):e ∈ E:=by
 have:e ∈ runEvs (st.es++st.gs):=List.mem_flatMap.2 ⟨r,hr,List.mem_flatMap.2 ⟨p,hp,he⟩⟩
 exact (List.mem_filter.1 (h.perm.mem_iff.1 this)).1
theorem Mod.bounds {st:St} {E:List Ev} {T:Option Int} (h:Mod st E T) {r:RunS} (hr:r ∈ st.es++st.gs) {p:Pane} (hp:p ∈ r.ps) :
 -2305844108725321728<=p.first/\p.first<=p.last/\-2305844108725321728<=p.last/\p.last<=2305843009213693952:=by
 obtain ⟨h1,h2⟩:=(h.good r hr).pane p hp
 obtain ⟨e,he⟩:=List.exists_mem_of_ne_nil _ h1
 obtain ⟨-,e1,e2⟩:=h2 e he
 obtain ⟨-,b1,b2⟩:=h.evs e (h.mem hr hp he)
 have c1:=h.conf.s1
 have c2:=h.conf.s2
 have c3:=h.conf.s3
 have w1:=winFirst_gt st.size st.slide e.t c1
 have w2:=winLast_le st.slide e.t c1
 have w3:=winFirst_le_last st.size st.slide e.t c1 c2
 omega
theorem pane_le {size slide:Int} {T:Option Int} {r:RunS} (hg:RunGood size slide T r) (hs:1<=slide) {i j:Nat} {p q:Pane} (hij:i<=j) (hp:r.ps[i]?=some p) (hq:r.ps[j]?=some q):p.first<=q.first/\p.last<=q.last:=by
 by_cases he:i=j
 . subst he;rw [hp] at hq;cases hq;exact ⟨Int.le_refl _,Int.le_refl _⟩
 . have hlt:=cmpW_lt.1 (hg.sorted i j p q (by omega) hp hq)
   obtain ⟨p1,p2⟩:=hg.pane p (List.mem_of_getElem? hp)
   obtain ⟨q1,q2⟩:=hg.pane q (List.mem_of_getElem? hq)
   obtain ⟨a,ha⟩:=List.exists_mem_of_ne_nil _ p1
   obtain ⟨b,hb⟩:=List.exists_mem_of_ne_nil _ q1
   obtain ⟨-,a1,a2⟩:=p2 a ha
   obtain ⟨-,b1,b2⟩:=q2 b hb
   by_cases hab:a.t<=b.t
   . have:=winFirst_mono size slide a.t b.t hs hab
     have:=winLast_mono slide a.t b.t hs hab
     omega
   . have:=winFirst_mono size slide b.t a.t hs (by omega)
     have:=winLast_mono slide b.t a.t hs (by omega)
     omega
theorem Mod.runOk {st:St} {E:List Ev} {T:Option Int} (h:Mod st E T) (hE:E.length<=100000000) {r:RunS} (hr:r ∈ st.es++st.gs):r.ps ≠ []/\r.ps.length<=100000000/\(∀ p ∈ r.ps,p.evs.length<=100000000)/\∀ p ∈ r.ps,IntKind.i64.wrap (p.last+st.size)=p.last+st.size:=by
 have hg:=h.good r hr
 have h1:=ps_le_evs r.ps (fun p hp=>(hg.pane p hp).1)
 have h2:=run_le _ _ hr
 have h3:=h.runLen
 refine ⟨hg.ne,by omega,fun p hp=>?_,fun p hp=>?_⟩
 . have:=evs_le r.ps p hp;omega
 . have:=h.bounds hr hp
   have c1:=h.conf.s1
   have c2:=h.conf.s2
   have c3:=h.conf.s3
   rw [IntKind.wrap_i64];omega
theorem Mod.keepOk {st:St} {E:List Ev} {T:Option Int} (h:Mod st E T) (hE:E.length<=100000000) {r:RunS} (hr:r ∈ st.es++st.gs) (e:Ev) (hl:¬ (st.li=true/\e.t < st.lt)):KeepOk r (winFirst st.size st.slide e.t) (winLast st.slide e.t):=by
 obtain ⟨h1,h2,h3,h4⟩:=h.runOk hE hr
 have hg:=h.good r hr
 refine ⟨hg.sorted,by omega,fun t q ht hq=>?_,fun p hp=>by have:=h3 p hp;omega⟩
 have htd:=(hg.ins t q hq).1 ht
 cases hT:T with
 | none=>rw [hT] at htd;simp [toldB] at htd
 | some u=>
   rw [hT] at htd
   simp only [toldB,decide_eq_true_eq] at htd
   obtain ⟨l1,l2⟩:=h.told u hT
   have:=winFirst_gt st.size st.slide e.t h.conf.s1
   rw [cmpW_lt]
   left
   have:¬ e.t < st.lt:=fun hh=>hl ⟨l1,hh⟩
   omega
end Go.Proofs.YtcfngdnmpogaoaaGreat
