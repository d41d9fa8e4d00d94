import Derived.Test.YtcfngdnmpogaoaaGreatTkT20
import Derived.Test.YtcfngdnmpogaoaaGreatTkT08
namespace Go.Proofs.YtcfngdnmpogaoaaGreat
open Go.RowKit Go.MuLone
set_option maxHeartbeats 12800000
set_option maxRecDepth 20000
theorem FlowAt.replace {w w':World} {g:Nat} {r:SCells} {pre post es:List RunX} {x x':RunX} (h:FlowAt w g r (pre++x :: post) es) (hx':RunAt w' x'.d x'.r) (hk:Kept x.d.foot w w') (hR:x'.d.R=x.d.R) (hf:∀ k,x'.d.foot k->x.d.foot k\/w.heap.size<=k) :
 FlowAt w' g r (pre++x' :: post) es:=by
 have hmx:x ∈ (pre++x :: post)++es:=by simp
 have hR':Rof (pre++x' :: post)=Rof (pre++x :: post):=by simp [Rof,hR]
 have hsub:∀ y,y ∈ pre\/y ∈ post\/y ∈ es->y ∈ (pre++x :: post)++es/\Apart y x:=fun y hy=>by
  have hd:=h.disj
  rw [List.append_assoc,List.pairwise_append] at hd
  obtain ⟨d1,d2,d3⟩:=hd
  rw [List.cons_append,List.pairwise_cons] at d2
  rcases hy with hy | hy | hy
  . exact ⟨by simp [hy],d3 y hy x (by simp)⟩
  . exact ⟨by simp [hy],(d2.1 y (by simp [hy])).symm⟩
  . exact ⟨by simp [hy],(d2.1 y (by simp [hy])).symm⟩
 have hold:∀ y,y ∈ pre\/y ∈ post\/y ∈ es->RunAt w' y.d y.r:=fun y hy=>by
  obtain ⟨hm,ha⟩:=hsub y hy
  exact (h.runs y hm).kept hk (fun k h1 h2=>ha k h1 h2)
 have hap:∀ y,y ∈ pre\/y ∈ post\/y ∈ es->Apart y x':=fun y hy k h1 h2=>by
  obtain ⟨hm,ha⟩:=hsub y hy
  rcases hf k h2 with h3 | h3
  . exact ha k h1 h3
  . have:=(h.runs y hm).lt h1;omega
 refine ⟨h.sf.congr (hk.block g h.sf.lt (fun e=>(h.runNe hmx e).1 rfl)),?_,?_,h.rows,?_,?_⟩
 . rw [hR'];exact h.going.kept hk (fun k hkk e=>(h.runNe hmx e).2.1 hkk)
 . exact h.ended.kept hk (fun k hkk e=>(h.runNe hmx e).2.2 hkk)
 . intro y hy
   simp only [List.mem_append,List.mem_cons] at hy
   rcases hy with (hy | rfl | hy) | hy
   . exact hold y (.inl hy)
   . exact hx'
   . exact hold y (.inr (.inl hy))
   . exact hold y (.inr (.inr hy))
 . have hd:=h.disj
   rw [List.append_assoc,List.pairwise_append] at hd ⊢
   obtain ⟨d1,d2,d3⟩:=hd
   rw [List.cons_append,List.pairwise_cons] at d2 ⊢
   refine ⟨d1,⟨fun y hy=>?_,d2.2⟩,fun a ha b hb=>?_⟩
   . rcases List.mem_append.1 hy with hy | hy
     . exact (hap y (.inr (.inl hy))).symm
     . exact (hap y (.inr (.inr hy))).symm
   . rcases List.mem_cons.1 hb with rfl | hb
     . exact hap a (.inl ha)
     . exact d3 a ha b (by simp [hb])
structure AddTo (r:RunS) (e:Ev) (f l:Int) (r':RunS):Prop where
 key:r'.key=r.key
 inside:r'.inside=r.inside
 next:r'.next=r.next
 how:∃ k r1 p,PaneFor r f l k r1/\r1.ps[k]?=some p/\r'.ps=r1.ps.set k ⟨p.first,p.last,p.evs++[e]⟩
def KeepRel (rs rs':List RunS) (e:Ev) (f l:Int):Prop:=
 ∃ pre r post r',rs'=pre++r' :: post/\r.key=e.key/\AddTo r e f l r'/\(rs=pre++r :: post\/((∀ x ∈ rs,x.key ≠ e.key)/\rs=pre/\post=[]/\r=⟨e.key,[],0,0⟩))
structure KeepOk (r:RunS) (f l:Int):Prop where
 sorted:Sorted r.ps
 len:r.ps.length < 1000000000000
 inside:∀ (t:Nat) q,t < r.inside->r.ps[t]?=some q->cmpW q.first q.last f l < 0
 evs:∀ p ∈ r.ps,p.evs.length < 1000000000
theorem KeepOk.new (key:ByteArray) (f l:Int):KeepOk ⟨key,[],0,0⟩ f l:=⟨fun i j p q _ h=>by simp at h,by simp,fun t q h=>by simp at h,fun p hp=>by simp at hp⟩
structure PaneGot (w w':World) (x:RunX) (f l:Int) (P k M:Nat) (d':RunD) (r':RunS) (p:Pane):Prop where
 pf:PaneFor x.r f l k r'
 run:RunAt w' d' r'
 R:d'.R=x.d.R
 ps:d'.Ps[k]?=some (P,M)
 here:r'.ps[k]?=some p
 evs:p.evs.length < 1000000000
 foot:∀ y,d'.foot y->x.d.foot y\/w.heap.size<=y
 kept:Kept x.d.foot w w'
theorem paneOf_got (x:RunX) (f l:Int) (w:World) (h:RunAt w x.d x.r) (hk:KeepOk x.r f l) :
 Calls Tryz.prog 147 #[.pointer (some ⟨x.d.R,0,none⟩),.agg #[.int .i64 f,.int .i64 l]] w fun e w'=>∃ P k M d' r' p,e=.returned (.pointer (some ⟨P,0,none⟩))/\PaneGot w w' x f l P k M d' r' p:=by
 refine (paneOf_run x.d x.r f l w h hk.sorted (Nat.le_of_lt hk.len) hk.inside).mono ?_
 rintro e w' ⟨k,P,M,d',r',rfl,hpf,hrun,hR,hps,hfoot,hkept⟩
 obtain ⟨p,hp,hp1,hp2⟩:=hpf.here
 refine ⟨P,k,M,d',r',p,rfl,hpf,hrun,hR,hps,hp,?_,hfoot,hkept⟩
 rcases hpf.how with e | ⟨hle,_,_,e⟩
 . rw [e] at hp;exact hk.evs p (List.mem_of_getElem? hp)
 . rw [e,insAt' _ _ _ _ hle] at hp
   simp at hp
   subst hp;simp
theorem FlowAt.memFoot {g:Nat} {r:SCells} {gs es:List RunX} {x:RunX} (hx:x ∈ gs) {k:Nat} (hk:x.d.foot k):flowFoot g r gs es k:=.inr (.inr (.inr ⟨x,by simp [hx],hk⟩))
def rsOf (xs:List RunX):List RunS:=xs.map RunX.r
theorem keep_any (g:Nat) (r:SCells) (gs es:List RunX) (e:Ev) (w:World) (h:FlowAt w g r gs es) (hl:gs.length<=1000000) (ht:e.tag < 4294967296)
 (h1:1<=r.slide) (h2:r.slide<=r.size) (h3:r.size<=1099511627776) (t1:-2305844108725321728<=e.t - r.size) (t2:e.t<=2305843009213693952)
 (hok:∀ x ∈ gs,x.r.key=e.key->KeepOk x.r (winFirst r.size r.slide e.t) (winLast r.slide e.t)) :
 Calls Tryz.prog 127 #[.pointer (some ⟨g,0,none⟩),evItem e] w fun en w'=>en=.returned (.tuple #[])/\∃ gv gs',FlowAt w' g (r.setGoing gv) gs' es/\KeepRel (rsOf gs) (rsOf gs') e (winFirst r.size r.slide e.t) (winLast r.slide e.t) /\
  (∀ k,flowFoot g (r.setGoing gv) gs' es k->flowFoot g r gs es k\/w.heap.size<=k)/\Kept (flowFoot g r gs es) w w':=by
 unfold evItem itemV
 have hglt:=h.sf.lt
 have hi1:=heap_alloc_new w (.cells #[.int .i64 1,.string e.key,.int .i64 e.t,.int .i64 e.v,.int .u32 (e.tag:Int)] 28)
 have B1:Below w.heap.size w (w.alloc (.cells #[.int .i64 1,.string e.key,.int .i64 e.t,.int .i64 e.v,.int .u32 (e.tag:Int)] 28)):=(Below.refl _ w).alloc (Nat.le_refl _) _
 have H1:=hid (h.below B1)
 have HB1:=hid B1
 have hBs:w.heap.size < (w.alloc (.cells #[.int .i64 1,.string e.key,.int .i64 e.t,.int .i64 e.v,.int .u32 (e.tag:Int)] 28)).heap.size:=by simp
 have HOk:=hid hok
 have H0:=hid h
 clear h hok B1
 obtain ⟨F,HF⟩:∃ F,Hid (winFirst r.size r.slide e.t=F):=⟨_,rfl⟩
 obtain ⟨L,HL⟩:∃ L,Hid (winLast r.slide e.t=L):=⟨_,rfl⟩
 have hwin:=fun W=>windowsOf_wide r.size r.slide r.late r.keys e.t W h1 h2 h3 (by omega) t2
 rw [HF.out,HL.out] at hwin HOk ⊢
 unfold confV at hwin
 have HWin:=hid hwin
 clear hwin
 go_enter Tryz.func127,Tryz.ntmps127
 go_upto_region 1 with fail
 have hgB:w.heap.size ≠ g:=by omega
 obtain ⟨B,HBe⟩:∃ B,Hid (w.heap.size=B):=⟨_,rfl⟩
 rw [HBe.out] at hi1 HB1 hBs hgB ⊢
 generalize w.alloc (.cells #[.int .i64 1,.string e.key,.int .i64 e.t,.int .i64 e.v,.int .u32 (e.tag:Int)] 28)=W1 at *
 obtain ⟨d0,d1,d2,d3,d4⟩:=itemAt hi1
 have q2:=H1.out.sf.headAt 2 rfl
 have q3:=H1.out.sf.headAt 3 rfl
 have q4:=H1.out.sf.headAt 4 rfl
 have q5:=H1.out.sf.headAt 5 rfl
 have HI1:=hid hi1
 clear hi1
 have hbox:Hid (∀ k,flowFoot g r gs es k->k < B):=fun k hk=>by rw [<- HBe.out];exact H0.out.lt hk
 have hrun:=runOf_any g r gs es e.key W1.drew (H1.out.congr (w':=W1.drew) (fun _ _=>rfl)) hl
 have HRun:=hid hrun
 clear hrun
 have hW1d:W1.drew.heap.size=W1.heap.size:=rfl
 have HNe:Hid (∀ (gv:Value) (x:RunX) (gs1:List RunX) (w1:World),RunIs W1.drew w1 g r gs es e.key gv x gs1->∀ k,x.d.foot k->k ≠ B/\k ≠ g):=fun gv x gs1 w1 hx k hk=>by
  refine ⟨?_,(hx.flow.runNe (by simp [hx.mem]) hk).1⟩
  rcases hx.how with ⟨e1,_⟩ | ⟨_,_,_,hnew⟩
  . have hm:=hx.mem
    rw [e1] at hm
    have:=hbox.out k (FlowAt.memFoot hm hk);omega
  . have:=hnew k hk;rw [hW1d] at this;omega
 have HPane:Hid (∀ (gv:Value) (x:RunX) (gs1:List RunX) (w1 w2:World),RunIs W1.drew w1 g r gs es e.key gv x gs1->Below w1.heap.size w1 w2->Calls Tryz.prog 147 #[.pointer (some ⟨x.d.R,0,none⟩),.agg #[.int .i64 F,.int .i64 L]] w2 fun en w3=>∃ P k M d' r' p,en=.returned (.pointer (some ⟨P,0,none⟩))/\PaneGot w2 w3 x F L P k M d' r' p):=fun gv x gs1 w1 w2 hx hb=>by
  refine paneOf_got x F L w2 ((hx.flow.below hb).runs x (by simp [hx.mem])) ?_
  rcases hx.how with ⟨e1,_⟩ | ⟨_,_,e2,_⟩
  . have hm:=hx.mem
    rw [e1] at hm
    exact HOk.out x hm hx.hkey
  . rw [e2];exact KeepOk.new _ _ _
 have HAdd:Hid (∀ (w2 w3:World) (x:RunX) (P k M:Nat) (d':RunD) (r':RunS) (p:Pane),PaneGot w2 w3 x F L P k M d' r' p->Calls Tryz.prog 149 #[.pointer (some ⟨P,0,none⟩),.agg #[.int .i64 1,.string e.key,.int .i64 e.t,.int .i64 e.v,.int .u32 (e.tag:Int)]] w3 fun en w4=>en=.returned (.tuple #[])/\RunAt w4 d' { r' with ps:=r'.ps.set k ⟨p.first,p.last,p.evs++[e]⟩ }/\Kept (fun y=>y=P\/y=M) w3 w4):=fun w2 w3 x P k M d' r' p hg=>add_run d' r' k P M p e w3 hg.run hg.ps hg.here (by rw [hg.pf.inside];exact hg.pf.ins) ht hg.evs
 have hBg:∀ k,(k=g\/r.going.ownBlock=some k)->k ≠ B:=fun k hk=>by
  have:=hbox.out k (hk.elim .inl (fun h=>.inr (.inl h)));omega
 go_region_held3 (fun W=>W.cell? ⟨B,0,none⟩=some (.int .i64 1)/\W.cell? ⟨B,1,none⟩=some (.string e.key)/\W.cell? ⟨B,2,none⟩=some (.int .i64 e.t)/\W.cell? ⟨B,3,none⟩=some (.int .i64 e.v)/\W.cell? ⟨B,4,none⟩=some (.int .u32 (e.tag:Int))/\W.cell? ⟨g,2,none⟩=some (.int .i64 r.size)/\W.cell? ⟨g,3,none⟩=some (.int .i64 r.slide)/\W.cell? ⟨g,4,none⟩=some (.int .i64 r.late)/\W.cell? ⟨g,5,none⟩=some (.int .i64 r.keys)) (go_keep) (first
  | (go_at_call 146;refine HRun.out.mono ?_;rintro en w1 ⟨gv,x,gs1,rfl,hx1⟩;have hX1:Hid (RunIs W1.drew w1 g r gs es e.key gv x gs1):=hx1;have hB1:w1.heap[B]?=some (.cells #[.int .i64 1,.string e.key,.int .i64 e.t,.int .i64 e.v,.int .u32 (e.tag:Int)] 28 (0,0)):=(hX1.out.kept.block B hBs (fun e=>hBg B e rfl)).trans HI1.out;obtain ⟨i0,i1,i2,i3,i4⟩:=itemAt hB1;have z2:w1.cell? ⟨g,2,none⟩=some (.int .i64 r.size):=hX1.out.flow.sf.headAt 2 rfl;have z3:w1.cell? ⟨g,3,none⟩=some (.int .i64 r.slide):=hX1.out.flow.sf.headAt 3 rfl;have z4:w1.cell? ⟨g,4,none⟩=some (.int .i64 r.late):=hX1.out.flow.sf.headAt 4 rfl;have z5:w1.cell? ⟨g,5,none⟩=some (.int .i64 r.keys):=hX1.out.flow.sf.headAt 5 rfl;clear hx1)
  | (go_at_call 148;refine (HWin.out _).mono ?_;rintro en w2 ⟨rfl,hbw⟩;have hBW:Hid (Below w1.heap.size w1 w2):=hbw;have hB2:=blkBelow hB1 hbw;obtain ⟨j0,j1,j2,j3,j4⟩:=itemAt hB2;have hF2:Hid (FlowAt w2 g (r.setGoing gv) gs1 es):=hX1.out.flow.below hbw;have y2:w2.cell? ⟨g,2,none⟩=some (.int .i64 r.size):=hF2.out.sf.headAt 2 rfl;have y3:w2.cell? ⟨g,3,none⟩=some (.int .i64 r.slide):=hF2.out.sf.headAt 3 rfl;have y4:w2.cell? ⟨g,4,none⟩=some (.int .i64 r.late):=hF2.out.sf.headAt 4 rfl;have y5:w2.cell? ⟨g,5,none⟩=some (.int .i64 r.keys):=hF2.out.sf.headAt 5 rfl;clear hbw)
  | (go_at_call 147;refine (HPane.out gv x gs1 w1 w2 hX1.out hBW.out).mono ?_;rintro en w3 ⟨P,k,M,d',r',p,rfl,hg3⟩;have HG:Hid (PaneGot w2 w3 x F L P k M d' r' p):=hg3;have hne3:=HNe.out gv x gs1 w1 hX1.out;have hgl:g < w2.heap.size:=hF2.out.sf.lt;have hB3:w3.heap[B]?=some (.cells #[.int .i64 1,.string e.key,.int .i64 e.t,.int .i64 e.v,.int .u32 (e.tag:Int)] 28 (0,0)):=(HG.out.kept.block B (blkLt hB2) (fun e=>(hne3 B e).1 rfl)).trans hB2;have hs3:SF w3 g (r.setGoing gv):=hF2.out.sf.congr (HG.out.kept.block g hgl (fun e=>(hne3 g e).2 rfl));obtain ⟨l0,l1,l2,l3,l4⟩:=itemAt hB3;have x2:w3.cell? ⟨g,2,none⟩=some (.int .i64 r.size):=hs3.headAt 2 rfl;have x3:w3.cell? ⟨g,3,none⟩=some (.int .i64 r.slide):=hs3.headAt 3 rfl;have x4:w3.cell? ⟨g,4,none⟩=some (.int .i64 r.late):=hs3.headAt 4 rfl;have x5:w3.cell? ⟨g,5,none⟩=some (.int .i64 r.keys):=hs3.headAt 5 rfl;have hPB:P ≠ B/\M ≠ B/\P ≠ g/\M ≠ g:=(by
   have hm:=List.mem_of_getElem? HG.out.ps
   have fP:d'.foot P:=.inr (.inr (.inl ⟨_,hm,.inl rfl⟩))
   have fM:d'.foot M:=.inr (.inr (.inl ⟨_,hm,.inr rfl⟩))
   have hb:=blkLt hB2
   have aux:∀ y,d'.foot y->y ≠ B/\y ≠ g:=fun y hy=>(HG.out.foot y hy).elim (fun h=>hne3 y h) (fun h=>⟨by omega,by omega⟩)
   exact ⟨(aux P fP).1,(aux M fM).1,(aux P fP).2,(aux M fM).2⟩);clear hg3)
  | (go_at_call 149;refine (HAdd.out w2 w3 x P k M d' r' p HG.out).mono ?_;rintro en w4 ⟨rfl,hr4,k4⟩;have HR4:Hid (RunAt w4 d' { r' with ps:=r'.ps.set k ⟨p.first,p.last,p.evs++[e]⟩ }):=hr4;have HK4:Hid (Kept (fun y=>y=P\/y=M) w3 w4):=k4;have hB4:w4.heap[B]?=some (.cells #[.int .i64 1,.string e.key,.int .i64 e.t,.int .i64 e.v,.int .u32 (e.tag:Int)] 28 (0,0)):=(k4.block B (blkLt hB3) (fun e=>e.elim (fun h=>hPB.1 h.symm) (fun h=>hPB.2.1 h.symm))).trans hB3;have hs4:SF w4 g (r.setGoing gv):=hs3.congr (k4.block g hs3.lt (fun e=>e.elim (fun h=>hPB.2.2.1 h.symm) (fun h=>hPB.2.2.2 h.symm)));obtain ⟨m0,m1,m2,m3,m4⟩:=itemAt hB4;have u2:w4.cell? ⟨g,2,none⟩=some (.int .i64 r.size):=hs4.headAt 2 rfl;have u3:w4.cell? ⟨g,3,none⟩=some (.int .i64 r.slide):=hs4.headAt 3 rfl;have u4:w4.cell? ⟨g,4,none⟩=some (.int .i64 r.late):=hs4.headAt 4 rfl;have u5:w4.cell? ⟨g,5,none⟩=some (.int .i64 r.keys):=hs4.headAt 5 rfl;clear hr4 k4))
 go_end0
 refine ⟨rfl,?_⟩
 have hz1:=HB1.out.size
 have hz2:=hX1.out.kept.size
 have hz3:=hBW.out.size
 have hmP:=List.mem_of_getElem? HG.out.ps
 have kx:Kept x.d.foot w2 w4:=HG.out.kept.step HK4.out (fun y hy hh=>by
  have:d'.foot y:=.inr (.inr (.inl ⟨_,hmP,hh⟩))
  rcases HG.out.foot y this with h | h
  . exact h
  . omega)
 have hxf:∀ y,x.d.foot y->flowFoot g r gs es y\/w.heap.size<=y:=fun y hy=>by
  rcases hX1.out.how with ⟨e1,_⟩ | ⟨_,_,_,hnew⟩
  . have hm:=hX1.out.mem
    rw [e1] at hm
    exact .inl (FlowAt.memFoot hm hy)
  . have:=hnew y hy;rw [hW1d] at this;exact .inr (by omega)
 have kAll:Kept (flowFoot g r gs es) w w4:=by
  have k1:Kept (flowFoot g r gs es) w W1.drew:=(Kept.ofBelow (by rw [HBe.out];exact HB1.out) _).drew
  have k2:Kept (flowFoot g r gs es) w w1:=k1.step hX1.out.kept (fun y _ hy=>hy.elim .inl (fun h=>.inr (.inl h)))
  have k3:Kept (flowFoot g r gs es) w w2:=k2.step (Kept.ofBelow hBW.out (fun _=>False)) (fun _ _ h=>h.elim)
  exact k3.step kx (fun y hy hx=>(hxf y hx).elim id (fun h=>by omega))
 have fin:∀ pre post,gs1=pre++x :: post->FlowAt w4 g (r.setGoing gv) (pre++⟨d',{ r' with ps:=r'.ps.set k ⟨p.first,p.last,p.evs++[e]⟩ }⟩ :: post) es/\(∀ y,flowFoot g (r.setGoing gv) (pre++⟨d',{ r' with ps:=r'.ps.set k ⟨p.first,p.last,p.evs++[e]⟩ }⟩ :: post) es y->flowFoot g r gs es y\/w.heap.size<=y):=by
  intro pre post hsp
  have hF:=hF2.out
  rw [hsp] at hF
  refine ⟨hF.replace HR4.out kx HG.out.R HG.out.foot,?_⟩
  have hgs:∀ y,y ∈ pre\/y ∈ post->y=x\/y ∈ gs:=fun y hy=>by
   have hy1:y ∈ gs1:=by rw [hsp];rcases hy with h | h <;> simp [h]
   rcases hX1.out.how with ⟨e1,_⟩ | ⟨_,e1,_,_⟩
   . rw [e1] at hy1;exact .inr hy1
   . rw [e1] at hy1
     rcases List.mem_append.1 hy1 with h | h
     . exact .inr h
     . exact .inl (by simpa using h)
  rintro y (hy | hy | hy | ⟨z,hz,hy⟩)
  . exact .inl (.inl hy)
  . rcases hX1.out.own y hy with h | h
    . exact .inl (.inr (.inl h))
    . rw [hW1d] at h;exact .inr (by omega)
  . exact .inl (.inr (.inr (.inl hy)))
  . have hzc:(z ∈ pre\/z ∈ post)\/z=⟨d',{ r' with ps:=r'.ps.set k ⟨p.first,p.last,p.evs++[e]⟩ }⟩\/z ∈ es:=by
     simp only [List.mem_append,List.mem_cons] at hz
     rcases hz with (h | h | h) | h
     . exact .inl (.inl h)
     . exact .inr (.inl h)
     . exact .inl (.inr h)
     . exact .inr (.inr h)
    rcases hzc with hz | rfl | hz
    . rcases hgs z hz with rfl | hz
      . exact hxf y hy
      . exact .inl (FlowAt.memFoot hz hy)
    . rcases HG.out.foot y hy with h | h
      . exact hxf y h
      . exact .inr (by omega)
    . exact .inl (.inr (.inr (.inr ⟨z,by simp [hz],hy⟩)))
 have hadd:AddTo x.r e F L { r' with ps:=r'.ps.set k ⟨p.first,p.last,p.evs++[e]⟩ }:=⟨HG.out.pf.key,HG.out.pf.inside,HG.out.pf.next,k,r',p,HG.out.pf,HG.out.here,rfl⟩
 rcases hX1.out.how with ⟨e1,_⟩ | ⟨hnk,e1,e2,_⟩
 . obtain ⟨pre,post,hsp⟩:=List.append_of_mem hX1.out.mem
   obtain ⟨f1,f2⟩:=fin pre post hsp
   refine ⟨gv,_,f1,⟨rsOf pre,x.r,rsOf post,_,by simp [rsOf],hX1.out.hkey,hadd,.inl ?_⟩,f2,kAll⟩
   rw [<- e1,hsp];simp [rsOf]
 . obtain ⟨f1,f2⟩:=fin gs [] e1
   refine ⟨gv,_,f1,⟨rsOf gs,x.r,[],_,by simp [rsOf],hX1.out.hkey,hadd,.inr ⟨fun y hy=>?_,rfl,rfl,e2⟩⟩,f2,kAll⟩
   obtain ⟨z,hz,rfl⟩:=List.mem_map.1 hy
   exact hnk z hz
end Go.Proofs.YtcfngdnmpogaoaaGreat
namespace Go.Proofs.YtcfngdnmpogaoaaGreat
open Go.RowKit Go.MuLone
set_option maxHeartbeats 6400000
set_option maxRecDepth 20000
def SCells.addRange (r:SCells):SCells:={ r with n:={ r.n with range:=wrap64 (r.n.range+1) } }
def SCells.addLate (r:SCells):SCells:={ r with n:={ r.n with late:=wrap64 (r.n.late+1) } }
def SCells.addFull (r:SCells):SCells:={ r with n:={ r.n with full:=wrap64 (r.n.full+1) } }
theorem raise_flow (g n:Nat) (r:SCells) (s:SSrc) (gs es:List RunX) (t:Int) (W:World) (h:FlowAt W g r gs es) (hs:r.src[n]?=some s) :
 Calls Tryz.prog 98 #[.pointer (some ⟨g,6+n*5+3,none⟩),.int .i64 t] W fun e w'=>e=.returned (.tuple #[])/\FlowAt w' g (r.setSrc n (s.raised t)) gs es/\Kept (fun k=>k=g) W w':=by
 have c3:W.cell? ⟨g,6+n*5+3,none⟩=some (.int .i64 s.time):=h.sf.cell (SCells.srcAt _ n 3 s hs (by omega))
 have c4:W.cell? ⟨g,6+n*5+3+1,none⟩=some (.bool s.is):=h.sf.cell (SCells.srcAt _ n 4 s hs (by omega))
 by_cases hup:s.is=false\/s.time < t
 . refine (raise_yes g _ s.time t s.is W c3 c4 h.sf.frozen hup).mono ?_
   rintro e w' ⟨rfl,rfl⟩
   have k7:Kept (fun k=>k=g) W ((W.setCell ⟨g,6+n*5+3,none⟩ (.int .i64 t)).setCell ⟨g,6+n*5+3+1,none⟩ (.bool true)):=by
    refine Kept.setCell ?_ ⟨g,_,none⟩ _ (fun _=>rfl)
    refine Kept.setCell ?_ ⟨g,_,none⟩ _ (fun _=>rfl)
    exact Kept.refl _ W
   refine ⟨rfl,?_,k7⟩
   rw [SSrc.raised,if_pos hup]
   exact h.turn k7 (h.sf.putMoment n s t true hs) rfl rfl
 . have hsi:s.is=true:=by cases h:s.is <;> simp [h] at hup ⊢
   refine (raise_no g _ s.time t W c3 (by rw [c4,hsi]) (fun h=>hup (.inr h))).mono ?_
   rintro e w' ⟨rfl,rfl⟩
   refine ⟨rfl,?_,Kept.refl _ _⟩
   rw [SSrc.raised,if_neg hup,setSrc_self _ _ _ hs]
   exact h
def evOut (e:Ev):Prop:=e.t < -2305843009213693952\/2305843009213693952 < e.t
def evLate (r:SCells) (e:Ev):Prop:=r.li=true/\e.t < r.lt
def evFull (keys:Int) (gs:List RunS) (e:Ev):Prop:=keys<=(gs.length:Int)/\∀ x ∈ gs,x.key ≠ e.key
def EvRel (r:SCells) (gs:List RunS) (n:Nat) (s:SSrc) (e:Ev) (r':SCells) (gs':List RunS):Prop:=
 (evOut e/\r'=r.addRange/\gs'=gs)\/(¬ evOut e/\evLate r e/\r'=r.addLate.setSrc n (s.raised e.t)/\gs'=gs) \/
 (¬ evOut e/\¬ evLate r e/\evFull r.keys gs e/\r'=r.addFull/\gs'=gs) \/
 (¬ evOut e/\¬ evLate r e/\¬ evFull r.keys gs e/\(∃ gv,r'=(r.addTaken.setGoing gv).setSrc n (s.raised e.t))/\KeepRel gs gs' e (winFirst r.size r.slide e.t) (winLast r.slide e.t))
theorem full_iff (keys:Int) (gs:List RunX) (e:Ev):fullFor (ksOf gs).length keys (ksOf gs) e.key=true ↔ evFull keys (rsOf gs) e:=by
 unfold fullFor evFull
 simp only [Bool.and_eq_true,decide_eq_true_eq,Bool.not_eq_true',List.any_eq_false,ksOf,rsOf,List.length_map,List.mem_map,Bool.not_eq_true]
 constructor
 . rintro ⟨h1,h2⟩
   refine ⟨h1,?_⟩
   rintro x ⟨y,hy,rfl⟩ e'
   have:=h2 ⟨y.d.R,y.r.key⟩ ⟨y,hy,rfl⟩
   rw [keyEq_false] at this
   exact this e'
 . rintro ⟨h1,h2⟩
   refine ⟨h1,?_⟩
   rintro x ⟨y,hy,rfl⟩
   rw [keyEq_false]
   exact h2 _ ⟨y,hy,rfl⟩
structure EvOk (r:SCells) (gs:List RunX) (e:Ev):Prop where
 len:gs.length<=1000000
 tag:e.tag < 4294967296
 s1:1<=r.slide
 s2:r.slide<=r.size
 s3:r.size<=1099511627776
 keep:¬ evOut e->¬ evLate r e->∀ x ∈ gs,x.r.key=e.key->KeepOk x.r (winFirst r.size r.slide e.t) (winLast r.slide e.t)
theorem doEvent_any (g n:Nat) (r:SCells) (s:SSrc) (gs es:List RunX) (e:Ev) (w:World) (h:FlowAt w g r gs es) (hs:r.src[n]?=some s) (hok:EvOk r gs e) :
 Calls Tryz.prog 99 #[.pointer (some ⟨g,0,none⟩),.pointer (some ⟨g,6+n*5,none⟩),evItem e] w fun en w'=>en=.returned (.tuple #[])/\∃ r' gs',EvRel r (rsOf gs) n s e r' (rsOf gs')/\FlowAt w' g r' gs' es /\
  (∀ k,flowFoot g r' gs' es k->flowFoot g r gs es k\/w.heap.size<=k)/\Kept (flowFoot g r gs es) w w':=by
 unfold evItem itemV
 have hglt:=h.sf.lt
 have hi1:=heap_alloc_new w (.cells #[.int .i64 1,.string e.key,.int .i64 e.t,.int .i64 e.v,.int .u32 (e.tag:Int)] 28)
 have B1:Below w.heap.size w (w.alloc (.cells #[.int .i64 1,.string e.key,.int .i64 e.t,.int .i64 e.v,.int .u32 (e.tag:Int)] 28)):=(Below.refl _ w).alloc (Nat.le_refl _) _
 have H1:=hid (h.below B1)
 have HB1:=hid B1
 have hBs:w.heap.size < (w.alloc (.cells #[.int .i64 1,.string e.key,.int .i64 e.t,.int .i64 e.v,.int .u32 (e.tag:Int)] 28)).heap.size:=by simp
 have H0:=hid h
 have HOk:=hid hok
 clear h hok B1
 go_enter Tryz.func99,Tryz.ntmps99
 go_upto_region 4 with fail
 have hgB:w.heap.size ≠ g:=by omega
 obtain ⟨B,HBe⟩:∃ B,Hid (w.heap.size=B):=⟨_,rfl⟩
 rw [HBe.out] at hi1 HB1 hBs hgB ⊢
 generalize w.alloc (.cells #[.int .i64 1,.string e.key,.int .i64 e.t,.int .i64 e.v,.int .u32 (e.tag:Int)] 28)=W1 at *
 have HI1:=hid hi1
 obtain ⟨d0,d1,d2,d3,d4⟩:=itemAt hi1
 clear hi1
 have HK1:Hid (Kept (fun k=>k=g) w W1):=Kept.ofBelow (by rw [HBe.out];exact HB1.out) _
 have HFoot:Hid (∀ (r':SCells),r'.going=r.going->r'.ended=r.ended->∀ k,flowFoot g r' gs es k->flowFoot g r gs es k\/w.heap.size<=k):=fun r' h1 h2 k hk=>by
  left
  rcases hk with hk | hk | hk | hk
  . exact .inl hk
  . rw [h1] at hk;exact .inr (.inl hk)
  . rw [h2] at hk;exact .inr (.inr (.inl hk))
  . exact .inr (.inr (.inr hk))
 by_cases hout:evOut e
 . have hfin:Hid (∀ w',FlowAt w' g r.addRange gs es->Kept (fun k=>k=g) w w'->∃ r' gs',EvRel r (rsOf gs) n s e r' (rsOf gs')/\FlowAt w' g r' gs' es/\(∀ k,flowFoot g r' gs' es k->flowFoot g r gs es k\/w.heap.size<=k)/\Kept (flowFoot g r gs es) w w'):=fun w' hf hk=>⟨r.addRange,gs,.inl ⟨hout,rfl,rfl⟩,hf,HFoot.out _ rfl rfl,hk.mono (fun k _ h=>.inl h)⟩
   have hadd:=add_any g 52 r.n.range 1 W1 (H1.out.sf.tailAt 6 rfl) (H1.out.sf.frozen _)
   by_cases hlo:e.t < -2305843009213693952
   . go_wp2_with fail
     refine hadd.mono ?_
     rintro en W2 ⟨rfl,rfl⟩
     have k2:Kept (fun k=>k=g) W1 (W1.setCell ⟨g,52,none⟩ (.int .i64 (wrap64 (r.n.range+1)))):=(Kept.refl _ W1).setCell ⟨g,52,none⟩ _ (fun _=>rfl)
     have HF2:Hid (FlowAt (W1.setCell ⟨g,52,none⟩ (.int .i64 (wrap64 (r.n.range+1)))) g r.addRange gs es):=H1.out.turn k2 (H1.out.sf.putTail 6 _ rfl rfl rfl) rfl rfl
     have HK2:=hid (HK1.out.trans k2)
     clear k2 hadd d0 d1 d2 d3 d4
     generalize W1.setCell ⟨g,52,none⟩ (.int .i64 (wrap64 (r.n.range+1)))=W2 at *
     go_wp2
     go_end0
     exact ⟨rfl,hfin.out _ HF2.out HK2.out⟩
   . have hhi:2305843009213693952 < e.t:=by unfold evOut at hout;omega
     go_wp2_with fail
     refine hadd.mono ?_
     rintro en W2 ⟨rfl,rfl⟩
     have k2:Kept (fun k=>k=g) W1 (W1.setCell ⟨g,52,none⟩ (.int .i64 (wrap64 (r.n.range+1)))):=(Kept.refl _ W1).setCell ⟨g,52,none⟩ _ (fun _=>rfl)
     have HF2:Hid (FlowAt (W1.setCell ⟨g,52,none⟩ (.int .i64 (wrap64 (r.n.range+1)))) g r.addRange gs es):=H1.out.turn k2 (H1.out.sf.putTail 6 _ rfl rfl rfl) rfl rfl
     have HK2:=hid (HK1.out.trans k2)
     clear k2 hadd d0 d1 d2 d3 d4
     generalize W1.setCell ⟨g,52,none⟩ (.int .i64 (wrap64 (r.n.range+1)))=W2 at *
     go_wp2
     go_end0
     exact ⟨rfl,hfin.out _ HF2.out HK2.out⟩
 . have hlo:¬ e.t < -2305843009213693952:=by unfold evOut at hout;omega
   have hhi:¬ 2305843009213693952 < e.t:=by unfold evOut at hout;omega
   have HOut:=hid hout
   clear hout
   have q47:=H1.out.sf.tailAt 1 rfl
   have q46:=H1.out.sf.tailAt 0 rfl
   go_upto_region 6 with fail
   by_cases hlate:evLate r e
   . have HLate:=hid hlate
     obtain ⟨l1,l2⟩:=hlate
     rw [l1] at q47
     have hd:decide (e.t < r.lt)=true:=decide_eq_true l2
     clear l1 l2
     generalize hlt:r.lt=lt at *
     have HLt:=hid hlt
     clear hlt
     go_quiet (fail)
     have HF2:Hid (FlowAt (W1.drewN nq) g r gs es):=H1.out.congr (fun k _=>by simp)
     have HK2:=hid (HK1.out.drewN nq)
     have HI2:Hid ((W1.drewN nq).heap[B]?=some (.cells #[.int .i64 1,.string e.key,.int .i64 e.t,.int .i64 e.v,.int .u32 (e.tag:Int)] 28 (0,0))):=by show _=_;simpa using HI1.out
     generalize W1.drewN nq=W2 at *
     clear q46 q47 d0 d1 d2 d3 d4 hd H1 HI1 HK1
     have hadd:=add_any g 51 r.n.late 1 W2 (HF2.out.sf.tailAt 5 rfl) (HF2.out.sf.frozen _)
     go_wp2_with fail
     refine hadd.mono ?_
     rintro en W3 ⟨rfl,rfl⟩
     have k3:Kept (fun k=>k=g) W2 (W2.setCell ⟨g,51,none⟩ (.int .i64 (wrap64 (r.n.late+1)))):=(Kept.refl _ W2).setCell ⟨g,51,none⟩ _ (fun _=>rfl)
     have HF3:Hid (FlowAt (W2.setCell ⟨g,51,none⟩ (.int .i64 (wrap64 (r.n.late+1)))) g r.addLate gs es):=HF2.out.turn k3 (HF2.out.sf.putTail 5 _ rfl rfl rfl) rfl rfl
     have HK3:=hid (HK2.out.trans k3)
     have HI3:Hid ((W2.setCell ⟨g,51,none⟩ (.int .i64 (wrap64 (r.n.late+1)))).heap[B]?=some (.cells #[.int .i64 1,.string e.key,.int .i64 e.t,.int .i64 e.v,.int .u32 (e.tag:Int)] 28 (0,0))):=blkOther HI2.out g 51 _ hgB
     clear k3 hadd HF2 HK2 HI2
     generalize W2.setCell ⟨g,51,none⟩ (.int .i64 (wrap64 (r.n.late+1)))=W3 at *
     obtain ⟨d0,d1,d2,d3,d4⟩:=itemAt HI3.out
     go_upto_region 8 with fail
     refine wp_region_still_tail 5 (by kernel_rfl) (by kernel_rfl) ?_
     simp only [List.take_succ_cons,List.take_zero,List.drop_succ_cons,List.drop_zero]
     change wpStill Tryz.prog _ W3.drew (fun a'=>wpList Tryz.prog _ _ _ a' W3.drew) _ _
     have d2:W3.drew.cell? ⟨B,2,none⟩=some (.int .i64 e.t):=d2
     have HF4:Hid (FlowAt W3.drew g r.addLate gs es):=HF3.out.congr (fun _ _=>rfl)
     have HK4:=hid HK3.out.drew
     clear d0 d1 d3 d4 HF3 HK3 HI3
     generalize W3.drew=W4 at *
     repeat still_step
     refine wpStill_nil ?_
     have hra:=raise_flow g n r.addLate s gs es e.t W4 HF4.out hs
     clear d2
     go_wp2_with fail
     refine hra.mono ?_
     rintro en W5 ⟨rfl,hf5,k5⟩
     have HF5:=hid hf5
     have HK5:=hid (HK4.out.trans k5)
     clear hf5 k5 hra
     go_wp2
     go_end0
     exact ⟨rfl,r.addLate.setSrc n (s.raised e.t),gs,.inr (.inl ⟨HOut.out,HLate.out,rfl,rfl⟩),HF5.out,HFoot.out _ rfl rfl,HK5.out.mono (fun k _ h=>.inl h)⟩
   . have HLate:=hid hlate
     go_cut [34] from 35 to 49 (fun s34 wx=>s34=.bool false/\FlowAt wx g r gs es/\Kept (fun k=>k=g) w wx/\wx.heap[B]?=some (.cells #[.int .i64 1,.string e.key,.int .i64 e.t,.int .i64 e.v,.int .u32 (e.tag:Int)] 28 (0,0)))
     case first=>
      cases hli:r.li with
      | false=>
        rw [hli] at q47
        clear hli
        go_quiet (fail)
        go_wp2
        go_meet
        exact ⟨rfl,H1.out.congr (fun k _=>by simp),HK1.out.drewN nq,by simpa using HI1.out⟩
      | true=>
        rw [hli] at q47
        have hnl:¬ e.t < r.lt:=fun h=>hlate ⟨hli,h⟩
        have hd:decide (e.t < r.lt)=false:=decide_eq_false hnl
        clear hli hlate
        generalize r.lt=lt at *
        go_quiet (fail)
        go_wp2
        go_meet
        exact ⟨rfl,H1.out.congr (fun k _=>by simp),HK1.out.drewN nq,by simpa using HI1.out⟩
     case rest=>
      obtain ⟨rfl,hf2,k2,hi2⟩:=hcut
      have HF2:=hid hf2
      have HK2:=hid k2
      have HI2:=hid hi2
      clear q46 q47 d0 d1 d2 d3 d4 H1 HI1 HK1 hf2 k2 hi2 hlate
      obtain ⟨d0,d1,d2,d3,d4⟩:=itemAt HI2.out
      have hfl:=isFullFor_any g r (ksOf gs) e.key wc HF2.out.sf (by rw [ksOf_R];exact HF2.out.going) HF2.out.keys (by simp [ksOf];have:=HOk.out.len;omega)
      cases hfb:fullFor (ksOf gs).length r.keys (ksOf gs) e.key with
      | true=>
        rw [hfb] at hfl
        have HFull:=hid ((full_iff r.keys gs e).1 hfb)
        clear hfb
        go_wp2_with fail
        refine hfl.mono ?_
        rintro en W3 ⟨rfl,hb3⟩
        have HF3:=hid (HF2.out.below hb3)
        have HK3:Hid (Kept (fun k=>k=g) w W3):=HK2.out.step (Kept.ofBelow hb3 (fun _=>False)) (fun _ _ h=>h.elim)
        clear hfl hb3 d0 d1 d2 d3 d4 HF2 HK2 HI2
        have hadd:=add_any g 53 r.n.full 1 W3 (HF3.out.sf.tailAt 7 rfl) (HF3.out.sf.frozen _)
        go_wp2_with fail
        refine hadd.mono ?_
        rintro en W4 ⟨rfl,rfl⟩
        have k4:Kept (fun k=>k=g) W3 (W3.setCell ⟨g,53,none⟩ (.int .i64 (wrap64 (r.n.full+1)))):=(Kept.refl _ W3).setCell ⟨g,53,none⟩ _ (fun _=>rfl)
        have HF4:Hid (FlowAt (W3.setCell ⟨g,53,none⟩ (.int .i64 (wrap64 (r.n.full+1)))) g r.addFull gs es):=HF3.out.turn k4 (HF3.out.sf.putTail 7 _ rfl rfl rfl) rfl rfl
        have HK4:=hid (HK3.out.trans k4)
        clear k4 hadd HF3 HK3
        generalize W3.setCell ⟨g,53,none⟩ (.int .i64 (wrap64 (r.n.full+1)))=W4 at *
        go_wp2
        go_end0
        exact ⟨rfl,r.addFull,gs,.inr (.inr (.inl ⟨HOut.out,HLate.out,HFull.out,rfl,rfl⟩)),HF4.out,HFoot.out _ rfl rfl,HK4.out.mono (fun k _ h=>.inl h)⟩
      | false=>
        rw [hfb] at hfl
        have HFull:Hid (¬ evFull r.keys (rsOf gs) e):=fun h=>by rw [(full_iff r.keys gs e).2 h] at hfb;cases hfb
        clear hfb
        go_wp2_with fail
        refine hfl.mono ?_
        rintro en W3 ⟨rfl,hb3⟩
        have HF3:=hid (HF2.out.below hb3)
        have HK3:Hid (Kept (fun k=>k=g) w W3):=HK2.out.step (Kept.ofBelow hb3 (fun _=>False)) (fun _ _ h=>h.elim)
        have HI3:=hid (blkBelow HI2.out hb3)
        clear hfl hb3 d0 d1 d2 d3 d4 HF2 HK2 HI2
        have hadd:=add_any g 50 r.n.taken 1 W3 (HF3.out.sf.tailAt 4 rfl) (HF3.out.sf.frozen _)
        go_wp2_with fail
        refine hadd.mono ?_
        rintro en W4 ⟨rfl,rfl⟩
        have k4:Kept (fun k=>k=g) W3 (W3.setCell ⟨g,50,none⟩ (.int .i64 (wrap64 (r.n.taken+1)))):=(Kept.refl _ W3).setCell ⟨g,50,none⟩ _ (fun _=>rfl)
        have HF4:Hid (FlowAt (W3.setCell ⟨g,50,none⟩ (.int .i64 (wrap64 (r.n.taken+1)))) g r.addTaken gs es):=HF3.out.turn k4 (HF3.out.sf.putTail 4 _ rfl rfl rfl) rfl rfl
        have HK4:=hid (HK3.out.trans k4)
        have HI4:Hid ((W3.setCell ⟨g,50,none⟩ (.int .i64 (wrap64 (r.n.taken+1)))).heap[B]?=some (.cells #[.int .i64 1,.string e.key,.int .i64 e.t,.int .i64 e.v,.int .u32 (e.tag:Int)] 28 (0,0))):=blkOther HI3.out g 50 _ hgB
        clear k4 hadd HF3 HK3 HI3
        generalize W3.setCell ⟨g,50,none⟩ (.int .i64 (wrap64 (r.n.taken+1)))=W4 at *
        obtain ⟨d0,d1,d2,d3,d4⟩:=itemAt HI4.out
        have hkp:=keep_any g r.addTaken gs es e W4 HF4.out HOk.out.len HOk.out.tag HOk.out.s1 HOk.out.s2 HOk.out.s3 (by have:=HOk.out.s3;show _<=e.t - r.size;omega) (by omega) (HOk.out.keep HOut.out HLate.out)
        unfold evItem itemV at hkp
        go_wp2_with fail
        refine hkp.mono ?_
        rintro en W5 ⟨rfl,gv,gs',hf5,hkr,hft5,k5⟩
        have hBf:∀ k,flowFoot g r.addTaken gs es k->k ≠ B:=fun k hk=>by
         have h0:=H0.out.lt hk
         have:=HBe.out;omega
        have HF5:=hid hf5
        have HKR:=hid hkr
        have HI5:=hid ((k5.block B (blkLt HI4.out) (fun h=>hBf B h rfl)).trans HI4.out)
        have HK5:Hid (Kept (flowFoot g r gs es) w W5):=(HK4.out.mono (fun k _ h=>.inl h)).step k5 (fun k _ h=>h)
        have HFt:Hid (∀ k,flowFoot g (r.addTaken.setGoing gv) gs' es k->flowFoot g r gs es k\/w.heap.size<=k):=fun k hk=>(hft5 k hk).elim (fun h=>.inl h) (fun h=>.inr (by have:=HK4.out.size;omega))
        clear hf5 hkr hft5 k5 hkp d0 d1 d2 d3 d4 HF4 HK4 HI4
        obtain ⟨d0,d1,d2,d3,d4⟩:=itemAt HI5.out
        go_upto_region 3 with fail
        refine wp_region_still_tail 5 (by kernel_rfl) (by kernel_rfl) ?_
        simp only [List.take_succ_cons,List.take_zero,List.drop_succ_cons,List.drop_zero]
        change wpStill Tryz.prog _ W5.drew (fun a'=>wpList Tryz.prog _ _ _ a' W5.drew) _ _
        have d2:W5.drew.cell? ⟨B,2,none⟩=some (.int .i64 e.t):=d2
        have HF6:Hid (FlowAt W5.drew g (r.addTaken.setGoing gv) gs' es):=HF5.out.congr (fun _ _=>rfl)
        have HK6:=hid HK5.out.drew
        clear d0 d1 d3 d4 HF5 HK5 HI5
        generalize W5.drew=W6 at *
        repeat still_step
        refine wpStill_nil ?_
        have hra:=raise_flow g n (r.addTaken.setGoing gv) s gs' es e.t W6 HF6.out hs
        clear d2
        go_wp2_with fail
        refine hra.mono ?_
        rintro en W7 ⟨rfl,hf7,k7⟩
        have HF7:=hid hf7
        have HK7:Hid (Kept (flowFoot g r gs es) w W7):=HK6.out.step k7 (fun k _ h=>.inl h)
        clear hf7 k7 hra
        go_wp2
        go_end0
        refine ⟨rfl,(r.addTaken.setGoing gv).setSrc n (s.raised e.t),gs',.inr (.inr (.inr ⟨HOut.out,HLate.out,HFull.out,⟨gv,rfl⟩,HKR.out⟩)),HF7.out,fun k hk=>HFt.out k ?_,HK7.out⟩
        rcases hk with hk | hk | hk | hk
        . exact .inl hk
        . exact .inr (.inl hk)
        . exact .inr (.inr (.inl hk))
        . exact .inr (.inr (.inr hk))
end Go.Proofs.YtcfngdnmpogaoaaGreat
