import Derived.Test.YtcfngdnmpogaoaaGreatTkU07
import Derived.Test.YtcfngdnmpogaoaaGreatTkU08
import Derived.Test.YtcfngdnmpogaoaaGreatTkU09
namespace Go.Proofs.YtcfngdnmpogaoaaGreat
open Go.RowKit Go.MuLone Go.Maps
set_option maxHeartbeats 1600000
theorem tagsD_tidy (es:List Ev):Maps.Tidy (tagsD es):=by
 unfold tagsD
 have:∀ (es:List Ev) (D:DataW Unit),Maps.Tidy D->Maps.Tidy (es.foldl (fun D e=>D.put (.int .u32 (e.tag:Int)) (.agg [])) D):=by
  intro es
  induction es with
  | nil=>intro D h;exact h
  | cons e es ih=>intro D h;exact ih _ (Maps.Tidy.put h (by simp [WideAt.IsKeyLit]) _)
 exact this es _ Maps.tidy_empty
theorem size_tagsD (es:List Ev):Maps.size (tagsD es)<=es.length:=by
 have:∀ (n:Nat) (es:List Ev),es.length=n->Maps.size (tagsD es)<=n:=by
  intro n
  induction n with
  | zero=>intro es h;rw [List.eq_nil_of_length_eq_zero h];exact Nat.le_refl 0
  | succ n ih=>
    intro es h
    have hne:es ≠ []:=by intro e;subst e;simp at h
    have hd:=List.dropLast_concat_getLast hne
    have hi:=ih es.dropLast (by simp [h])
    rw [<- hd,tagsD_snoc]
    have hm:=tagsD_tidy es.dropLast
    by_cases hh:Maps.has (tagsD es.dropLast) (.int .u32 ((es.getLast hne).tag:Int))=true
    . rw [Maps.size_put hm,hh];simp;omega
    . have hh':Maps.has (tagsD es.dropLast) (.int .u32 ((es.getLast hne).tag:Int))=false:=by simpa using hh
      rw [Maps.size_put hm,hh'];simp;omega
 exact this _ es rfl
theorem set_at {α:Type} (xs:List α) (k j:Nat) (x:α) (hk:k < xs.length):(xs.set k x)[j]?=if j=k then some x else xs[j]?:=by
 rw [List.getElem?_set]
 by_cases h:k=j
 . subst h;simp [hk]
 . rw [if_neg h,if_neg (fun e=>h e.symm)]
def evItem (e:Ev):Value:=itemV 1 e.key e.t e.v (e.tag:Int)
theorem add_run (d:RunD) (r:RunS) (k P M:Nat) (p:Pane) (e:Ev) (w:World) (h:RunAt w d r) (hd:d.Ps[k]?=some (P,M)) (hp:r.ps[k]?=some p) (hin:r.inside<=k) (he:e.tag < 4294967296) (hn:p.evs.length < 1000000000) :
 Calls Tryz.prog 149 #[.pointer (some ⟨P,0,none⟩),evItem e] w fun en w'=>en=.returned (.tuple #[])/\RunAt w' d { r with ps:=r.ps.set k ⟨p.first,p.last,p.evs++[e]⟩ }/\Kept (fun x=>x=P\/x=M) w w':=by
 have hpa:=h.each k P M p hd hp
 obtain ⟨n0,-,htag⟩:=hpa.tags
 obtain ⟨m,-,htag,hm⟩:=ownsMap_tight htag
 have hsz:=size_tagsD p.evs
 have hmP:=(Cb.of hpa.pane).neM hpa.tags.mb
 have hkd:k < d.Ps.length:=(List.getElem?_eq_some_iff.1 hd).1
 have hkr:k < r.ps.length:=by rw [<- h.len];exact hkd
 have hmem:=List.mem_of_getElem? hd
 refine (add_pane P M p.first p.last (cntV p.evs) (sumV p.evs) (loV p.evs) (hiV p.evs) e.key e.t e.v e.tag m (tagsD p.evs) w he hpa.pane htag (by omega) hmP).mono ?_
 rintro en w' ⟨rfl,hp',ht',hk'⟩
 refine ⟨rfl,?_,hk'⟩
 rw [cntV_snoc p.evs e,sumV_snoc,<- loV_snoc,<- hiV_snoc] at hp'
 rw [<- tagsD_snoc] at ht'
 obtain ⟨m',hm',ht',-⟩:=ownsMap_tight ht'
 have hkeep:∀ x,d.foot x->x ≠ P->x ≠ M->w'.heap[x]?=w.heap[x]?:=fun x hx h1 h2=>hk'.block x (h.lt hx) (fun hh=>hh.elim h1 h2)
 have hCP:=Cb.of hpa.pane
 have hCM:=hpa.tags.mb
 have hR:d.R ≠ P/\d.R ≠ M:=⟨(Cb.of h.run).ne hCP (by decide),(Cb.of h.run).neM hCM⟩
 have hpv:∀ x,d.pv.ownBlock=some x->x ≠ P/\x ≠ M:=fun x hx=>⟨(h.panes.cb hx).ne hCP (by decide),(h.panes.cb hx).neM hCM⟩
 have hparts:∀ x,partsFoot d.b d.cv d.gv x->x ≠ P/\x ≠ M:=fun x hx=>by
  rcases h.parts.kind hx with ⟨_,c⟩ | ⟨_,c⟩ | ⟨hx2,c⟩ | ⟨_,c⟩ | c
  . exact ⟨c.ne hCP (by decide),c.neM hCM⟩
  . exact ⟨c.ne hCP (by decide),c.neM hCM⟩
  . exact ⟨fun e=>hCP.neM c e.symm,fun e=>h.tcM _ hmem (by show M=_;omega)⟩
  . exact ⟨c.ne hCP (by decide),c.neM hCM⟩
  . exact ⟨c.ne hCP (by decide),c.neM hCM⟩
 refine ⟨?_,?_,?_,?_,h.nodP,h.nodM,h.tcM,?_,?_⟩
 . rw [hkeep d.R (.inl rfl) hR.1 hR.2];exact h.run
 . exact h.panes.congr (fun x hx=>hkeep x (.inr (.inl hx)) (hpv x hx).1 (hpv x hx).2)
 . show d.Ps.length=(r.ps.set k _).length
   rw [List.length_set];exact h.len
 . intro i P' M' p' h1 h2
   simp only at h2
   rw [set_at _ _ _ _ hkr] at h2
   by_cases hik:i=k
   . subst hik
     rw [if_pos rfl] at h2
     rw [hd] at h1
     simp only [Option.some.injEq,Prod.mk.injEq] at h1 h2
     obtain ⟨rfl,rfl⟩:=h1
     subst h2
     exact ⟨hp',m',hm',ht'⟩
   . rw [if_neg hik] at h2
     have hi:=List.mem_of_getElem? h1
     have hpi:=h.each i P' M' p' h1 h2
     have e1:P' ≠ P:=fun e=>by
      have hi2:i < (d.Ps.map Prod.fst).length:=by simpa using (List.getElem?_eq_some_iff.1 h1).1
      have:=(List.getElem?_inj hi2 h.nodP (i:=i) (j:=k)).1 (by rw [List.getElem?_map,List.getElem?_map,h1,hd];simp [e])
      exact hik this
     have e2:M' ≠ M:=fun e=>by
      have hi2:i < (d.Ps.map Prod.snd).length:=by simpa using (List.getElem?_eq_some_iff.1 h1).1
      have:=(List.getElem?_inj hi2 h.nodM (i:=i) (j:=k)).1 (by rw [List.getElem?_map,List.getElem?_map,h1,hd];simp [e])
      exact hik this
     have e3:=(Cb.of hpi.pane).neM hCM
     have e4:M' ≠ P:=fun e=>hCP.neM hpi.tags.mb e.symm
     exact hpi.congr (hkeep P' (.inr (.inr (.inl ⟨_,hi,.inl rfl⟩))) e1 e3) (hkeep M' (.inr (.inr (.inl ⟨_,hi,.inr rfl⟩))) e4 e2)
 . show r.inside<=(r.ps.set k _).length
   rw [List.length_set];exact h.ins
 . show PartsAt w' d.b d.cv d.gv ((r.ps.set k _).take r.inside)
   rw [List.take_set_of_le hin]
   exact h.parts.congr (fun x hx=>hkeep x (.inr (.inr (.inr hx))) (hparts x hx).1 (hparts x hx).2)
end Go.Proofs.YtcfngdnmpogaoaaGreat
namespace Go.Proofs.YtcfngdnmpogaoaaGreat
open Go.RowKit Go.MuLone
set_option maxHeartbeats 12800000
set_option maxRecDepth 20000
theorem FlowAt.replace {w w':World} {g:Nat} {r:SCells} {pre post es:List RunX} {x x':RunX} (h:FlowAt w g r (pre++x :: post) es) (hx':RunAt w' x'.d x'.r) (hk:Kept x.d.foot w w') (hR:x'.d.R=x.d.R) (hf:∀ k,x'.d.foot k->x.d.foot k\/w.heap.size<=k) :
 FlowAt w' g r (pre++x' :: post) es:=by
 have hmx:x ∈ (pre++x :: post)++es:=by simp
 have hR':Rof (pre++x' :: post)=Rof (pre++x :: post):=by simp [Rof,hR]
 have hsub:∀ y,y ∈ pre\/y ∈ post\/y ∈ es->y ∈ (pre++x :: post)++es/\Apart y x:=fun y hy=>by
  have hd:=h.disj
  rw [List.append_assoc,List.pairwise_append] at hd
  obtain ⟨d1,d2,d3⟩:=hd
  rw [List.cons_append,List.pairwise_cons] at d2
  rcases hy with hy | hy | hy
  . exact ⟨by simp [hy],d3 y hy x (by simp)⟩
  . exact ⟨by simp [hy],(d2.1 y (by simp [hy])).symm⟩
  . exact ⟨by simp [hy],(d2.1 y (by simp [hy])).symm⟩
 have hold:∀ y,y ∈ pre\/y ∈ post\/y ∈ es->RunAt w' y.d y.r:=fun y hy=>by
  obtain ⟨hm,ha⟩:=hsub y hy
  exact (h.runs y hm).kept hk (fun k h1 h2=>ha k h1 h2)
 have hap:∀ y,y ∈ pre\/y ∈ post\/y ∈ es->Apart y x':=fun y hy k h1 h2=>by
  obtain ⟨hm,ha⟩:=hsub y hy
  rcases hf k h2 with h3 | h3
  . exact ha k h1 h3
  . have:=(h.runs y hm).lt h1;omega
 refine ⟨h.sf.congr (hk.block g h.sf.lt (fun e=>(h.runNe hmx e).1 rfl)),?_,?_,h.rows,?_,?_⟩
 . rw [hR'];exact h.going.kept hk (fun k hkk e=>(h.runNe hmx e).2.1 hkk)
 . exact h.ended.kept hk (fun k hkk e=>(h.runNe hmx e).2.2 hkk)
 . intro y hy
   simp only [List.mem_append,List.mem_cons] at hy
   rcases hy with (hy | rfl | hy) | hy
   . exact hold y (.inl hy)
   . exact hx'
   . exact hold y (.inr (.inl hy))
   . exact hold y (.inr (.inr hy))
 . have hd:=h.disj
   rw [List.append_assoc,List.pairwise_append] at hd ⊢
   obtain ⟨d1,d2,d3⟩:=hd
   rw [List.cons_append,List.pairwise_cons] at d2 ⊢
   refine ⟨d1,⟨fun y hy=>?_,d2.2⟩,fun a ha b hb=>?_⟩
   . rcases List.mem_append.1 hy with hy | hy
     . exact (hap y (.inr (.inl hy))).symm
     . exact (hap y (.inr (.inr hy))).symm
   . rcases List.mem_cons.1 hb with rfl | hb
     . exact hap a (.inl ha)
     . exact d3 a ha b (by simp [hb])
structure AddTo (r:RunS) (e:Ev) (f l:Int) (r':RunS):Prop where
 key:r'.key=r.key
 inside:r'.inside=r.inside
 next:r'.next=r.next
 how:∃ k r1 p,PaneFor r f l k r1/\r1.ps[k]?=some p/\r'.ps=r1.ps.set k ⟨p.first,p.last,p.evs++[e]⟩
def KeepRel (rs rs':List RunS) (e:Ev) (f l:Int):Prop:=
 ∃ pre r post r',rs'=pre++r' :: post/\r.key=e.key/\AddTo r e f l r'/\(rs=pre++r :: post\/((∀ x ∈ rs,x.key ≠ e.key)/\rs=pre/\post=[]/\r=⟨e.key,[],0,0⟩))
structure KeepOk (r:RunS) (f l:Int):Prop where
 sorted:Sorted r.ps
 len:r.ps.length < 1000000000000
 inside:∀ (t:Nat) q,t < r.inside->r.ps[t]?=some q->cmpW q.first q.last f l < 0
 evs:∀ p ∈ r.ps,p.evs.length < 1000000000
theorem KeepOk.new (key:ByteArray) (f l:Int):KeepOk ⟨key,[],0,0⟩ f l:=⟨fun i j p q _ h=>by simp at h,by simp,fun t q h=>by simp at h,fun p hp=>by simp at hp⟩
structure PaneGot (w w':World) (x:RunX) (f l:Int) (P k M:Nat) (d':RunD) (r':RunS) (p:Pane):Prop where
 pf:PaneFor x.r f l k r'
 run:RunAt w' d' r'
 R:d'.R=x.d.R
 ps:d'.Ps[k]?=some (P,M)
 here:r'.ps[k]?=some p
 evs:p.evs.length < 1000000000
 foot:∀ y,d'.foot y->x.d.foot y\/w.heap.size<=y
 kept:Kept x.d.foot w w'
theorem paneOf_got (x:RunX) (f l:Int) (w:World) (h:RunAt w x.d x.r) (hk:KeepOk x.r f l) :
 Calls Tryz.prog 147 #[.pointer (some ⟨x.d.R,0,none⟩),.agg #[.int .i64 f,.int .i64 l]] w fun e w'=>∃ P k M d' r' p,e=.returned (.pointer (some ⟨P,0,none⟩))/\PaneGot w w' x f l P k M d' r' p:=by
 refine (paneOf_run x.d x.r f l w h hk.sorted (Nat.le_of_lt hk.len) hk.inside).mono ?_
 rintro e w' ⟨k,P,M,d',r',rfl,hpf,hrun,hR,hps,hfoot,hkept⟩
 obtain ⟨p,hp,hp1,hp2⟩:=hpf.here
 refine ⟨P,k,M,d',r',p,rfl,hpf,hrun,hR,hps,hp,?_,hfoot,hkept⟩
 rcases hpf.how with e | ⟨hle,_,_,e⟩
 . rw [e] at hp;exact hk.evs p (List.mem_of_getElem? hp)
 . rw [e,insAt' _ _ _ _ hle] at hp
   simp at hp
   subst hp;simp
theorem FlowAt.memFoot {g:Nat} {r:SCells} {gs es:List RunX} {x:RunX} (hx:x ∈ gs) {k:Nat} (hk:x.d.foot k):flowFoot g r gs es k:=.inr (.inr (.inr ⟨x,by simp [hx],hk⟩))
def rsOf (xs:List RunX):List RunS:=xs.map RunX.r
theorem keep_any (g:Nat) (r:SCells) (gs es:List RunX) (e:Ev) (w:World) (h:FlowAt w g r gs es) (hl:gs.length<=1000000) (ht:e.tag < 4294967296)
 (h1:1<=r.slide) (h2:r.slide<=r.size) (h3:r.size<=1099511627776) (t1:-2305844108725321728<=e.t - r.size) (t2:e.t<=2305843009213693952)
 (hok:∀ x ∈ gs,x.r.key=e.key->KeepOk x.r (winFirst r.size r.slide e.t) (winLast r.slide e.t)) :
 Calls Tryz.prog 127 #[.pointer (some ⟨g,0,none⟩),evItem e] w fun en w'=>en=.returned (.tuple #[])/\∃ gv gs',FlowAt w' g (r.setGoing gv) gs' es/\KeepRel (rsOf gs) (rsOf gs') e (winFirst r.size r.slide e.t) (winLast r.slide e.t) /\
  (∀ k,flowFoot g (r.setGoing gv) gs' es k->flowFoot g r gs es k\/w.heap.size<=k)/\Kept (flowFoot g r gs es) w w':=by
 unfold evItem itemV
 have hglt:=h.sf.lt
 have hi1:=heap_alloc_new w (.cells #[.int .i64 1,.string e.key,.int .i64 e.t,.int .i64 e.v,.int .u32 (e.tag:Int)] 28)
 have B1:Below w.heap.size w (w.alloc (.cells #[.int .i64 1,.string e.key,.int .i64 e.t,.int .i64 e.v,.int .u32 (e.tag:Int)] 28)):=(Below.refl _ w).alloc (Nat.le_refl _) _
 have H1:=hid (h.below B1)
 have HB1:=hid B1
 have hBs:w.heap.size < (w.alloc (.cells #[.int .i64 1,.string e.key,.int .i64 e.t,.int .i64 e.v,.int .u32 (e.tag:Int)] 28)).heap.size:=by simp
 have HOk:=hid hok
 have H0:=hid h
 clear h hok B1
 obtain ⟨F,HF⟩:∃ F,Hid (winFirst r.size r.slide e.t=F):=⟨_,rfl⟩
 obtain ⟨L,HL⟩:∃ L,Hid (winLast r.slide e.t=L):=⟨_,rfl⟩
 have hwin:=fun W=>windowsOf_wide r.size r.slide r.late r.keys e.t W h1 h2 h3 (by omega) t2
 rw [HF.out,HL.out] at hwin HOk ⊢
 unfold confV at hwin
 have HWin:=hid hwin
 clear hwin
 go_enter Tryz.func127,Tryz.ntmps127
 go_upto_region 1 with fail
 have hgB:w.heap.size ≠ g:=by omega
 obtain ⟨B,HBe⟩:∃ B,Hid (w.heap.size=B):=⟨_,rfl⟩
 rw [HBe.out] at hi1 HB1 hBs hgB ⊢
 generalize w.alloc (.cells #[.int .i64 1,.string e.key,.int .i64 e.t,.int .i64 e.v,.int .u32 (e.tag:Int)] 28)=W1 at *
 obtain ⟨d0,d1,d2,d3,d4⟩:=itemAt hi1
 have q2:=H1.out.sf.headAt 2 rfl
 have q3:=H1.out.sf.headAt 3 rfl
 have q4:=H1.out.sf.headAt 4 rfl
 have q5:=H1.out.sf.headAt 5 rfl
 have HI1:=hid hi1
 clear hi1
 have hbox:Hid (∀ k,flowFoot g r gs es k->k < B):=fun k hk=>by rw [<- HBe.out];exact H0.out.lt hk
 have hrun:=runOf_any g r gs es e.key W1.drew (H1.out.congr (w':=W1.drew) (fun _ _=>rfl)) hl
 have HRun:=hid hrun
 clear hrun
 have hW1d:W1.drew.heap.size=W1.heap.size:=rfl
 have HNe:Hid (∀ (gv:Value) (x:RunX) (gs1:List RunX) (w1:World),RunIs W1.drew w1 g r gs es e.key gv x gs1->∀ k,x.d.foot k->k ≠ B/\k ≠ g):=fun gv x gs1 w1 hx k hk=>by
  refine ⟨?_,(hx.flow.runNe (by simp [hx.mem]) hk).1⟩
  rcases hx.how with ⟨e1,_⟩ | ⟨_,_,_,hnew⟩
  . have hm:=hx.mem
    rw [e1] at hm
    have:=hbox.out k (FlowAt.memFoot hm hk);omega
  . have:=hnew k hk;rw [hW1d] at this;omega
 have HPane:Hid (∀ (gv:Value) (x:RunX) (gs1:List RunX) (w1 w2:World),RunIs W1.drew w1 g r gs es e.key gv x gs1->Below w1.heap.size w1 w2->Calls Tryz.prog 147 #[.pointer (some ⟨x.d.R,0,none⟩),.agg #[.int .i64 F,.int .i64 L]] w2 fun en w3=>∃ P k M d' r' p,en=.returned (.pointer (some ⟨P,0,none⟩))/\PaneGot w2 w3 x F L P k M d' r' p):=fun gv x gs1 w1 w2 hx hb=>by
  refine paneOf_got x F L w2 ((hx.flow.below hb).runs x (by simp [hx.mem])) ?_
  rcases hx.how with ⟨e1,_⟩ | ⟨_,_,e2,_⟩
  . have hm:=hx.mem
    rw [e1] at hm
    exact HOk.out x hm hx.hkey
  . rw [e2];exact KeepOk.new _ _ _
 have HAdd:Hid (∀ (w2 w3:World) (x:RunX) (P k M:Nat) (d':RunD) (r':RunS) (p:Pane),PaneGot w2 w3 x F L P k M d' r' p->Calls Tryz.prog 149 #[.pointer (some ⟨P,0,none⟩),.agg #[.int .i64 1,.string e.key,.int .i64 e.t,.int .i64 e.v,.int .u32 (e.tag:Int)]] w3 fun en w4=>en=.returned (.tuple #[])/\RunAt w4 d' { r' with ps:=r'.ps.set k ⟨p.first,p.last,p.evs++[e]⟩ }/\Kept (fun y=>y=P\/y=M) w3 w4):=fun w2 w3 x P k M d' r' p hg=>add_run d' r' k P M p e w3 hg.run hg.ps hg.here (by rw [hg.pf.inside];exact hg.pf.ins) ht hg.evs
 have hBg:∀ k,(k=g\/r.going.ownBlock=some k)->k ≠ B:=fun k hk=>by
  have:=hbox.out k (hk.elim .inl (fun h=>.inr (.inl h)));omega
 go_region_held3 (fun W=>W.cell? ⟨B,0,none⟩=some (.int .i64 1)/\W.cell? ⟨B,1,none⟩=some (.string e.key)/\W.cell? ⟨B,2,none⟩=some (.int .i64 e.t)/\W.cell? ⟨B,3,none⟩=some (.int .i64 e.v)/\W.cell? ⟨B,4,none⟩=some (.int .u32 (e.tag:Int))/\W.cell? ⟨g,2,none⟩=some (.int .i64 r.size)/\W.cell? ⟨g,3,none⟩=some (.int .i64 r.slide)/\W.cell? ⟨g,4,none⟩=some (.int .i64 r.late)/\W.cell? ⟨g,5,none⟩=some (.int .i64 r.keys)) (go_keep) (first
  | (go_at_call 146;refine HRun.out.mono ?_;rintro en w1 ⟨gv,x,gs1,rfl,hx1⟩;have hX1:Hid (RunIs W1.drew w1 g r gs es e.key gv x gs1):=hx1;have hB1:w1.heap[B]?=some (.cells #[.int .i64 1,.string e.key,.int .i64 e.t,.int .i64 e.v,.int .u32 (e.tag:Int)] 28 (0,0)):=(hX1.out.kept.block B hBs (fun e=>hBg B e rfl)).trans HI1.out;obtain ⟨i0,i1,i2,i3,i4⟩:=itemAt hB1;have z2:w1.cell? ⟨g,2,none⟩=some (.int .i64 r.size):=hX1.out.flow.sf.headAt 2 rfl;have z3:w1.cell? ⟨g,3,none⟩=some (.int .i64 r.slide):=hX1.out.flow.sf.headAt 3 rfl;have z4:w1.cell? ⟨g,4,none⟩=some (.int .i64 r.late):=hX1.out.flow.sf.headAt 4 rfl;have z5:w1.cell? ⟨g,5,none⟩=some (.int .i64 r.keys):=hX1.out.flow.sf.headAt 5 rfl;clear hx1)
  | (go_at_call 148;refine (HWin.out _).mono ?_;rintro en w2 ⟨rfl,hbw⟩;have hBW:Hid (Below w1.heap.size w1 w2):=hbw;have hB2:=blkBelow hB1 hbw;obtain ⟨j0,j1,j2,j3,j4⟩:=itemAt hB2;have hF2:Hid (FlowAt w2 g (r.setGoing gv) gs1 es):=hX1.out.flow.below hbw;have y2:w2.cell? ⟨g,2,none⟩=some (.int .i64 r.size):=hF2.out.sf.headAt 2 rfl;have y3:w2.cell? ⟨g,3,none⟩=some (.int .i64 r.slide):=hF2.out.sf.headAt 3 rfl;have y4:w2.cell? ⟨g,4,none⟩=some (.int .i64 r.late):=hF2.out.sf.headAt 4 rfl;have y5:w2.cell? ⟨g,5,none⟩=some (.int .i64 r.keys):=hF2.out.sf.headAt 5 rfl;clear hbw)
  | (go_at_call 147;refine (HPane.out gv x gs1 w1 w2 hX1.out hBW.out).mono ?_;rintro en w3 ⟨P,k,M,d',r',p,rfl,hg3⟩;have HG:Hid (PaneGot w2 w3 x F L P k M d' r' p):=hg3;have hne3:=HNe.out gv x gs1 w1 hX1.out;have hgl:g < w2.heap.size:=hF2.out.sf.lt;have hB3:w3.heap[B]?=some (.cells #[.int .i64 1,.string e.key,.int .i64 e.t,.int .i64 e.v,.int .u32 (e.tag:Int)] 28 (0,0)):=(HG.out.kept.block B (blkLt hB2) (fun e=>(hne3 B e).1 rfl)).trans hB2;have hs3:SF w3 g (r.setGoing gv):=hF2.out.sf.congr (HG.out.kept.block g hgl (fun e=>(hne3 g e).2 rfl));obtain ⟨l0,l1,l2,l3,l4⟩:=itemAt hB3;have x2:w3.cell? ⟨g,2,none⟩=some (.int .i64 r.size):=hs3.headAt 2 rfl;have x3:w3.cell? ⟨g,3,none⟩=some (.int .i64 r.slide):=hs3.headAt 3 rfl;have x4:w3.cell? ⟨g,4,none⟩=some (.int .i64 r.late):=hs3.headAt 4 rfl;have x5:w3.cell? ⟨g,5,none⟩=some (.int .i64 r.keys):=hs3.headAt 5 rfl;have hPB:P ≠ B/\M ≠ B/\P ≠ g/\M ≠ g:=(by
   have hm:=List.mem_of_getElem? HG.out.ps
   have fP:d'.foot P:=.inr (.inr (.inl ⟨_,hm,.inl rfl⟩))
   have fM:d'.foot M:=.inr (.inr (.inl ⟨_,hm,.inr rfl⟩))
   have hb:=blkLt hB2
   have aux:∀ y,d'.foot y->y ≠ B/\y ≠ g:=fun y hy=>(HG.out.foot y hy).elim (fun h=>hne3 y h) (fun h=>⟨by omega,by omega⟩)
   exact ⟨(aux P fP).1,(aux M fM).1,(aux P fP).2,(aux M fM).2⟩);clear hg3)
  | (go_at_call 149;refine (HAdd.out w2 w3 x P k M d' r' p HG.out).mono ?_;rintro en w4 ⟨rfl,hr4,k4⟩;have HR4:Hid (RunAt w4 d' { r' with ps:=r'.ps.set k ⟨p.first,p.last,p.evs++[e]⟩ }):=hr4;have HK4:Hid (Kept (fun y=>y=P\/y=M) w3 w4):=k4;have hB4:w4.heap[B]?=some (.cells #[.int .i64 1,.string e.key,.int .i64 e.t,.int .i64 e.v,.int .u32 (e.tag:Int)] 28 (0,0)):=(k4.block B (blkLt hB3) (fun e=>e.elim (fun h=>hPB.1 h.symm) (fun h=>hPB.2.1 h.symm))).trans hB3;have hs4:SF w4 g (r.setGoing gv):=hs3.congr (k4.block g hs3.lt (fun e=>e.elim (fun h=>hPB.2.2.1 h.symm) (fun h=>hPB.2.2.2 h.symm)));obtain ⟨m0,m1,m2,m3,m4⟩:=itemAt hB4;have u2:w4.cell? ⟨g,2,none⟩=some (.int .i64 r.size):=hs4.headAt 2 rfl;have u3:w4.cell? ⟨g,3,none⟩=some (.int .i64 r.slide):=hs4.headAt 3 rfl;have u4:w4.cell? ⟨g,4,none⟩=some (.int .i64 r.late):=hs4.headAt 4 rfl;have u5:w4.cell? ⟨g,5,none⟩=some (.int .i64 r.keys):=hs4.headAt 5 rfl;clear hr4 k4))
 go_end0
 refine ⟨rfl,?_⟩
 have hz1:=HB1.out.size
 have hz2:=hX1.out.kept.size
 have hz3:=hBW.out.size
 have hmP:=List.mem_of_getElem? HG.out.ps
 have kx:Kept x.d.foot w2 w4:=HG.out.kept.step HK4.out (fun y hy hh=>by
  have:d'.foot y:=.inr (.inr (.inl ⟨_,hmP,hh⟩))
  rcases HG.out.foot y this with h | h
  . exact h
  . omega)
 have hxf:∀ y,x.d.foot y->flowFoot g r gs es y\/w.heap.size<=y:=fun y hy=>by
  rcases hX1.out.how with ⟨e1,_⟩ | ⟨_,_,_,hnew⟩
  . have hm:=hX1.out.mem
    rw [e1] at hm
    exact .inl (FlowAt.memFoot hm hy)
  . have:=hnew y hy;rw [hW1d] at this;exact .inr (by omega)
 have kAll:Kept (flowFoot g r gs es) w w4:=by
  have k1:Kept (flowFoot g r gs es) w W1.drew:=(Kept.ofBelow (by rw [HBe.out];exact HB1.out) _).drew
  have k2:Kept (flowFoot g r gs es) w w1:=k1.step hX1.out.kept (fun y _ hy=>hy.elim .inl (fun h=>.inr (.inl h)))
  have k3:Kept (flowFoot g r gs es) w w2:=k2.step (Kept.ofBelow hBW.out (fun _=>False)) (fun _ _ h=>h.elim)
  exact k3.step kx (fun y hy hx=>(hxf y hx).elim id (fun h=>by omega))
 have fin:∀ pre post,gs1=pre++x :: post->FlowAt w4 g (r.setGoing gv) (pre++⟨d',{ r' with ps:=r'.ps.set k ⟨p.first,p.last,p.evs++[e]⟩ }⟩ :: post) es/\(∀ y,flowFoot g (r.setGoing gv) (pre++⟨d',{ r' with ps:=r'.ps.set k ⟨p.first,p.last,p.evs++[e]⟩ }⟩ :: post) es y->flowFoot g r gs es y\/w.heap.size<=y):=by
  intro pre post hsp
  have hF:=hF2.out
  rw [hsp] at hF
  refine ⟨hF.replace HR4.out kx HG.out.R HG.out.foot,?_⟩
  have hgs:∀ y,y ∈ pre\/y ∈ post->y=x\/y ∈ gs:=fun y hy=>by
   have hy1:y ∈ gs1:=by rw [hsp];rcases hy with h | h <;> simp [h]
   rcases hX1.out.how with ⟨e1,_⟩ | ⟨_,e1,_,_⟩
   . rw [e1] at hy1;exact .inr hy1
   . rw [e1] at hy1
     rcases List.mem_append.1 hy1 with h | h
     . exact .inr h
     . exact .inl (by simpa using h)
  rintro y (hy | hy | hy | ⟨z,hz,hy⟩)
  . exact .inl (.inl hy)
  . rcases hX1.out.own y hy with h | h
    . exact .inl (.inr (.inl h))
    . rw [hW1d] at h;exact .inr (by omega)
  . exact .inl (.inr (.inr (.inl hy)))
  . have hzc:(z ∈ pre\/z ∈ post)\/z=⟨d',{ r' with ps:=r'.ps.set k ⟨p.first,p.last,p.evs++[e]⟩ }⟩\/z ∈ es:=by
     simp only [List.mem_append,List.mem_cons] at hz
     rcases hz with (h | h | h) | h
     . exact .inl (.inl h)
     . exact .inr (.inl h)
     . exact .inl (.inr h)
     . exact .inr (.inr h)
    rcases hzc with hz | rfl | hz
    . rcases hgs z hz with rfl | hz
      . exact hxf y hy
      . exact .inl (FlowAt.memFoot hz hy)
    . rcases HG.out.foot y hy with h | h
      . exact hxf y h
      . exact .inr (by omega)
    . exact .inl (.inr (.inr (.inr ⟨z,by simp [hz],hy⟩)))
 have hadd:AddTo x.r e F L { r' with ps:=r'.ps.set k ⟨p.first,p.last,p.evs++[e]⟩ }:=⟨HG.out.pf.key,HG.out.pf.inside,HG.out.pf.next,k,r',p,HG.out.pf,HG.out.here,rfl⟩
 rcases hX1.out.how with ⟨e1,_⟩ | ⟨hnk,e1,e2,_⟩
 . obtain ⟨pre,post,hsp⟩:=List.append_of_mem hX1.out.mem
   obtain ⟨f1,f2⟩:=fin pre post hsp
   refine ⟨gv,_,f1,⟨rsOf pre,x.r,rsOf post,_,by simp [rsOf],hX1.out.hkey,hadd,.inl ?_⟩,f2,kAll⟩
   rw [<- e1,hsp];simp [rsOf]
 . obtain ⟨f1,f2⟩:=fin gs [] e1
   refine ⟨gv,_,f1,⟨rsOf gs,x.r,[],_,by simp [rsOf],hX1.out.hkey,hadd,.inr ⟨fun y hy=>?_,rfl,rfl,e2⟩⟩,f2,kAll⟩
   obtain ⟨z,hz,rfl⟩:=List.mem_map.1 hy
   exact hnk z hz
end Go.Proofs.YtcfngdnmpogaoaaGreat
