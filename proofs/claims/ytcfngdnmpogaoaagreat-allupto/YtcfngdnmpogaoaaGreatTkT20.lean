import Derived.Test.YtcfngdnmpogaoaaGreatTkT19
import Derived.Test.YtcfngdnmpogaoaaGreatTkT07
namespace Go.Proofs.YtcfngdnmpogaoaaGreat
open Go.RowKit Go.MuLone
set_option maxHeartbeats 6400000
set_option maxRecDepth 20000
theorem PartsNew.parts {w:World} {b:Nat} (h:PartsNew w b):PartsAt w b (.slice none 0 0) (.slice none 0 0) []:=
 ⟨by rw [show evsOf []=[] from rfl,cntV_nil,sumV_nil];exact h.tot,h.bnd,⟨[],[],Row.nil _ _ _,Row.nil _ _ _,rfl⟩,fun k hk=>by simp [Value.ownBlock] at hk,⟨0,.map [],by omega,mapMade h.tag,TagsC.empty⟩,h.all⟩
theorem Rof_append' (a b:List RunX):Rof (a++b)=Rof a++Rof b:=by simp [Rof]
theorem runPtrs_append' (a b:List Nat):runPtrs (a++b)=runPtrs a++runPtrs b:=by simp [runPtrs]
def ksOf (gs:List RunX):List RunK:=gs.map fun x=>⟨x.d.R,x.r.key⟩
theorem ksOf_R (gs:List RunX):(ksOf gs).map RunK.R=Rof gs:=by simp [ksOf,Rof]
theorem FlowAt.keys {w:World} {g:Nat} {r:SCells} {gs es:List RunX} (h:FlowAt w g r gs es):RunKs w (ksOf gs):=by
 refine ⟨by rw [ksOf_R];exact Rof_nodup (List.pairwise_append.1 h.disj).1,fun y hy=>?_⟩
 obtain ⟨x,hx,rfl⟩:=List.mem_map.1 hy
 exact (runAt (h.runs x (by simp [hx])).run).1
structure RunIs (w w':World) (g:Nat) (r:SCells) (gs es:List RunX) (key:ByteArray) (gv:Value) (x:RunX) (gs':List RunX):Prop where
 flow:FlowAt w' g (r.setGoing gv) gs' es
 mem:x ∈ gs'
 hkey:x.r.key=key
 how:(gs'=gs/\gv=r.going)\/((∀ y ∈ gs,y.r.key ≠ key)/\gs'=gs++[x]/\x.r=⟨key,[],0,0⟩/\∀ k,x.d.foot k->w.heap.size<=k)
 own:∀ b,gv.ownBlock=some b->r.going.ownBlock=some b\/w.heap.size<=b
 kept:Kept (fun b=>b=g\/r.going.ownBlock=some b) w w'
theorem runOf_any (g:Nat) (r:SCells) (gs es:List RunX) (key:ByteArray) (w:World) (h:FlowAt w g r gs es) (hl:gs.length<=1000000) :
 Calls Tryz.prog 146 #[.pointer (some ⟨g,0,none⟩),.string key] w fun e w'=>∃ gv x gs',e=.returned (.pointer (some ⟨x.d.R,0,none⟩))/\RunIs w w' g r gs es key gv x gs':=by
 obtain ⟨i,hi,hz0,hz1,hz2⟩:=info_parts infoPR
 have hglt:=h.sf.lt
 have HFl:=hid h
 have hP:=placeOf_any g r (ksOf gs) key w h.sf (by rw [ksOf_R];exact h.going) h.keys (by simp [ksOf];omega)
 obtain ⟨ga,gc,hgv,hgc⟩:=h.going.slice
 rw [runPtrs_len,Rof,List.length_map] at hgv hgc
 clear h
 go_enter Tryz.func146,Tryz.ntmps146
 go_wp2_with fail
 refine hP.mono ?_
 rintro e W1 ⟨z,rfl,hz,hb1⟩
 have HF1:=hid (HFl.out.below hb1)
 have HB1:=hid hb1
 have c48:W1.cell? ⟨g,48,none⟩=some r.going:=HF1.out.sf.tailAt 2 rfl
 rw [hgv] at c48
 clear hb1 hP
 rcases hz with ⟨k,rfl,y,hy,hyk⟩ | ⟨rfl,hall⟩
 . rw [ksOf,List.getElem?_map] at hy
   cases hx:gs[k]? with
   | none=>rw [hx] at hy;simp at hy
   | some x=>
     rw [hx] at hy
     simp only [Option.map_some,Option.some.injEq] at hy
     subst hy
     have hkl:k < gs.length:=(List.getElem?_eq_some_iff.1 hx).1
     obtain ⟨gg,go,gn,gc',hv,-,-⟩:=HFl.out.going.shape (by rw [runPtrs];intro e;have:=congrArg List.length e;simp [Rof] at this;rw [this] at hkl;simp at hkl)
     rw [hgv] at hv
     simp only [Value.slice.injEq] at hv
     obtain ⟨rfl,rfl,rfl⟩:=hv
     have g0:W1.cell? ⟨gg,go+k,none⟩=some (.pointer (some ⟨x.d.R,0,none⟩)):=by
      have:=HF1.out.going;rw [hgv] at this
      have:=this.cell k (by omega)
      rw [runPtrs,Rof,List.getElem?_map,List.getElem?_map,hx] at this;simpa using this
     have HX:Hid (gs[k]?=some x/\x.r.key=key):=⟨hx,hyk⟩
     clear hx hyk
     have hkn:(k:Int) < (gs.length:Int):=by omega
     have hk0:¬ ((k:Int) < 0):=by omega
     go_wp2
     go_ret
     refine ⟨r.going,x,gs,rfl,⟨HF1.out,List.mem_of_getElem? HX.out.1,HX.out.2,.inl ⟨rfl,rfl⟩,fun b hb=>.inl hb,Kept.ofBelow HB1.out _⟩⟩
 . have HALL:Hid (∀ y ∈ gs,y.r.key ≠ key):=fun y hy=>hall ⟨y.d.R,y.r.key⟩ (List.mem_map_of_mem hy)
   clear hall
   have fz:∀ j,W1.frozen? ⟨g,j,none⟩=false:=HF1.out.sf.frozen
   have hglt1:=HF1.out.sf.lt
   have hgne:=HF1.out.gNe
   go_upto_region 4 with fail
   go_cut [26] from 16 to 28 (fun _ wx=>∃ (R b:Nat) (gv:Value),W1.heap.size<=R/\W1.heap.size<=b/\SF wx g (r.setGoing gv)/\PartsNew wx b /\
    wx.heap[R]?=some (.cells (runCells key (.slice none 0 0) 0 0 (.slice (some ⟨b+3,0,none⟩) 3 3)) 178 (0,0))/\Row wx 150 1 gv (runPtrs (Rof gs)++[.pointer (some ⟨R,0,none⟩)])/\(∀ k,gv.ownBlock=some k->r.going.ownBlock=some k\/W1.heap.size<=k)/\Kept (fun k=>k=g\/r.going.ownBlock=some k) W1 wx)
   case first=>
    have hrA:Hid (∀ W:World,Below W1.heap.size W1 W->Row W 150 1 (.slice ga gs.length gc) (runPtrs (Rof gs))):=fun W hb=>by rw [<- hgv];exact HF1.out.going.below hb (fun k hk=>(HF1.out.going.blk_lt hk).1)
    have hll:(runPtrs (Rof gs)).length<=1000000:=by rw [runPtrs_len,Rof,List.length_map];exact hl
    have hgne1:(Value.slice ga gs.length gc).ownBlock ≠ some g:=by rw [<- hgv];exact hgne.1
    have hgblk:∀ k,(Value.slice ga gs.length gc).ownBlock=some k->k < W1.heap.size:=fun k hk=>by rw [<- hgv] at hk;exact (HF1.out.going.blk_lt hk).1
    go_region_law (first
     | (refine step_call0 rfl 163 _ rfl enterParts _ (newParts_any _) ?_;rintro e w1 ⟨rfl,hparts,hb1⟩;refine ⟨_,rfl,?_⟩;have hb1':Below W1.heap.size W1 w1:=(((Below.refl W1.heap.size W1).drew)).trans (hb1.mono (Nat.le_refl _));have d48:w1.cell? ⟨g,48,none⟩=some (.slice ga gs.length gc):=(hb1'.cell (p:=⟨g,48,none⟩) hglt1).trans c48;have df:∀ j,w1.frozen? ⟨g,j,none⟩=false:=fun j=>((bcell hb1').2 g j hglt1).trans (fz j);have hgw1:g < w1.heap.size:=Nat.lt_of_lt_of_le hglt1 hb1'.size)
     | (refine step_append rfl _ _ _ _ rfl 150 i (.pointer none) 1 8 Tryz.underlying108 hi hz0 hz1 hz2 rfl Nat.one_pos (.slice ga gs.length gc) (runPtrs (Rof gs)) rfl (hrA.out _ (hb1'.trans ((((Below.refl W1.heap.size w1).alloc hb1'.size _).alloc (by have:=hb1'.size;simp;omega) _)))) (.slice (some ⟨w1.heap.size+1,0,none⟩) 1 1) 1 [.pointer (some ⟨w1.heap.size,0,none⟩)] rfl ?_ Nat.one_pos ?_ ?_ ?_;exact Src.ofSlice _ Tryz.underlying108 ⟨w1.heap.size+1,0,none⟩ 1 1 _ rfl (fun j u hu=>by cases j with | zero=>(simp only [List.getElem?_cons_zero,Option.some.injEq] at hu;subst hu;exact blkCell (two_new w1 _ _).2 rfl) | succ j=>simp at hu) (by simp [Value.oneCell']);(simp only [maxLen];omega);omega;intro gv w2 ha;have kA:Kept (fun b=>(Value.slice ga gs.length gc).ownBlock=some b) w1 w2:=((((Kept.refl _ w1).alloc _).alloc _).step (Kept.ofGrown ha.grown) (fun _ _ h=>h));have hgvo:∀ b,gv.ownBlock=some b->(Value.slice ga gs.length gc).ownBlock=some b\/w1.heap.size<=b:=(fun b hb=>by rcases ha.step with ⟨h1,_⟩ | ⟨h1,_⟩;(left;rw [<- h1];exact hb);(right;rw [h1] at hb;simp only [Option.some.injEq] at hb;simp at hb;omega));have hrow:=ha.row;obtain ⟨vg,vo,vn,vc,hgs,-,-⟩:=hrow.shape (by simp);subst hgs;have hg2:w2.heap[g]?=w1.heap[g]?:=kA.block g hgw1 hgne1;have e48:w2.cell? ⟨g,48,none⟩=some (.slice ga gs.length gc):=(by rw [<- d48];simp only [World.cell?,hg2]);have ef:∀ j,w2.frozen? ⟨g,j,none⟩=false:=fun j=>(by rw [<- df j];simp only [World.frozen?,hg2])))
    all_goals
     go_wp2
     go_meet
     have hw1:W1.heap.size<=w1.heap.size:=hb1'.size
     have hbs:W1.drew.heap.size=W1.heap.size:=rfl
     rw [hbs] at hparts
     have hb3:=blkLt hparts.all
     have hpp:PartsNew w2 W1.heap.size:=hparts.congr (fun k h1 h2=>kA.block k (by omega) (fun e=>by have:=hgblk k e;omega))
     have hrr:w2.heap[w1.heap.size]?=some (.cells (runCells key (.slice none 0 0) 0 0 (.slice (some ⟨W1.heap.size+3,0,none⟩) 3 3)) 178 (0,0)):=(ha.grown.block _ (by simp;omega) (fun e=>by have:=hgblk _ e.symm;omega)).trans (two_new w1 _ _).1
     have hsf2:SF w2 g r:=(HF1.out.sf.below hb1' hglt1).congr hg2
     refine ⟨w1.heap.size,W1.heap.size,.slice (some ⟨vg,vo,none⟩) vn vc,hw1,Nat.le_refl _,hsf2.putGoing _,hpp.congr (fun k h1 h2=>heap_setCell_other _ _ _ _ (show k ≠ g by omega)),blkOther hrr g 48 _ (by omega),hrow.setCell ⟨g,48,none⟩ _ (fun e=>?_),fun k hk=>?_,?_⟩
     . rcases hgvo g e with h1 | h1
       . exact hgne1 h1
       . omega
     . rcases hgvo k hk with h1 | h1
       . exact .inl (by rw [hgv];exact h1)
       . exact .inr (by omega)
     . refine Kept.setCell ?_ ⟨g,_,none⟩ _ (fun _=>.inl rfl)
       exact (Kept.ofBelow hb1' _).step kA (fun b _ h=>.inr (by rw [hgv];exact h))
   case rest=>
    obtain ⟨R,b,gv,h1,h2,h3,h4,h5,h6,h7,h8⟩:=hcut
    have HH:Hid (W1.heap.size<=R/\W1.heap.size<=b/\SF wc g (r.setGoing gv)/\PartsNew wc b /\
     wc.heap[R]?=some (.cells (runCells key (.slice none 0 0) 0 0 (.slice (some ⟨b+3,0,none⟩) 3 3)) 178 (0,0))/\Row wc 150 1 gv (runPtrs (Rof gs)++[.pointer (some ⟨R,0,none⟩)])/\(∀ k,gv.ownBlock=some k->r.going.ownBlock=some k\/W1.heap.size<=k)/\Kept (fun k=>k=g\/r.going.ownBlock=some k) W1 wc):=⟨h1,h2,h3,h4,h5,h6,h7,h8⟩
    have q48:wc.cell? ⟨g,48,none⟩=some gv:=h3.tailAt 2 rfl
    obtain ⟨pg,po,pn,pc,hpv,hpn,-⟩:=h6.shape (by simp)
    subst hpv
    have hpn1:pn=gs.length+1:=by simp [runPtrs,Rof] at hpn;omega
    subst hpn1
    have p0:wc.cell? ⟨pg,po+gs.length,none⟩=some (.pointer (some ⟨R,0,none⟩)):=by
     have:=h6.cell gs.length (by omega)
     rw [List.getElem?_append_right (by simp [runPtrs,Rof])] at this
     simpa [runPtrs,Rof] using this
    have hkn:(gs.length:Int) < ((gs.length+1:Nat):Int):=by omega
    have hkn2:(gs.length:Int) < (gs.length:Int)+1:=by omega
    clear h1 h2 h3 h4 h5 h6 h7 h8 c48 fz hpn
    go_wp2
    go_ret
    obtain ⟨h1,h2,h3,h4,h5,h6,h7,h8⟩:=HH.out
    have hz1:=HB1.out.size
    have hfoot:∀ k,(⟨R,.slice none 0 0,[],b,.slice none 0 0,.slice none 0 0⟩:RunD).foot k->W1.heap.size<=k:=by
     rintro k (hk | hk | ⟨q,hq,_⟩ | hk)
     . simp only at hk;omega
     . simp [Value.ownBlock] at hk
     . simp at hq
     . rcases hk with ⟨k1,_⟩ | hk | hk
       . simp only at k1;omega
       . simp [Value.ownBlock] at hk
       . simp [Value.ownBlock] at hk
    have hne1:=HF1.out.gNe
    refine ⟨_,⟨⟨R,.slice none 0 0,[],b,.slice none 0 0,.slice none 0 0⟩,⟨key,[],0,0⟩⟩,gs++[⟨⟨R,.slice none 0 0,[],b,.slice none 0 0,.slice none 0 0⟩,⟨key,[],0,0⟩⟩],rfl,⟨⟨h3,?_,?_,?_,?_,?_⟩,by simp,rfl,.inr ⟨HALL.out,rfl,rfl,fun k hk=>by have:=hfoot k hk;omega⟩,fun k hk=>?_,(Kept.ofBelow HB1.out _).trans h8⟩⟩
    . rw [Rof_append',runPtrs_append']
      exact h6
    . show Row wc _ 1 r.ended _
      refine HF1.out.ended.kept h8 (fun k hk hh=>?_)
      rcases hh with e | e
      . subst e;exact hne1.2 hk
      . exact HF1.out.rows k e hk
    . intro k hk he
      rcases h7 k hk with e | e
      . exact HF1.out.rows k e he
      . have:=(HF1.out.ended.blk_lt he).1;omega
    . intro x hx
      have hx':x ∈ gs++es\/x=⟨⟨R,.slice none 0 0,[],b,.slice none 0 0,.slice none 0 0⟩,⟨key,[],0,0⟩⟩:=by
       simp only [List.mem_append,List.mem_singleton] at hx ⊢
       rcases hx with (hx | hx) | hx
       . exact .inl (.inl hx)
       . exact .inr hx
       . exact .inl (.inr hx)
      rcases hx' with hx | rfl
      . refine (HF1.out.runs x hx).kept h8 (fun k hk hh=>?_)
        have:=HF1.out.runNe hx hk
        rcases hh with e | e
        . exact this.1 e
        . exact this.2.1 e
      . exact ⟨h5,Row.nil _ _ _,rfl,fun i P M p h=>by simp at h,List.nodup_nil,List.nodup_nil,fun p hp=>by simp at hp,Nat.le_refl _,h4.parts⟩
    . have hap:∀ x ∈ gs++es,Apart x ⟨⟨R,.slice none 0 0,[],b,.slice none 0 0,.slice none 0 0⟩,⟨key,[],0,0⟩⟩:=fun x hx k hk hk2=>by
       have:=(HF1.out.runs x hx).lt hk
       have:=hfoot k hk2
       omega
      have hd:=HF1.out.disj
      rw [List.append_assoc,List.pairwise_append] at *
      obtain ⟨d1,d2,d3⟩:=hd
      refine ⟨d1,?_,?_⟩
      . rw [List.singleton_append,List.pairwise_cons]
        exact ⟨fun y hy=>(hap y (by simp [hy])).symm,d2⟩
      . intro x hx y hy
        rcases List.mem_cons.1 hy with rfl | hy
        . exact hap x (by simp [hx])
        . exact d3 x hx y hy
    . rcases h7 k hk with e | e
      . exact .inl e
      . exact .inr (by omega)
end Go.Proofs.YtcfngdnmpogaoaaGreat
namespace Go.Proofs.YtcfngdnmpogaoaaGreat
open Go.RowKit Go.MuLone Go.Maps
set_option maxHeartbeats 1600000
theorem tagsD_tidy (es:List Ev):Maps.Tidy (tagsD es):=by
 unfold tagsD
 have:∀ (es:List Ev) (D:DataW Unit),Maps.Tidy D->Maps.Tidy (es.foldl (fun D e=>D.put (.int .u32 (e.tag:Int)) (.agg [])) D):=by
  intro es
  induction es with
  | nil=>intro D h;exact h
  | cons e es ih=>intro D h;exact ih _ (Maps.Tidy.put h (by simp [WideAt.IsKeyLit]) _)
 exact this es _ Maps.tidy_empty
theorem size_tagsD (es:List Ev):Maps.size (tagsD es)<=es.length:=by
 have:∀ (n:Nat) (es:List Ev),es.length=n->Maps.size (tagsD es)<=n:=by
  intro n
  induction n with
  | zero=>intro es h;rw [List.eq_nil_of_length_eq_zero h];exact Nat.le_refl 0
  | succ n ih=>
    intro es h
    have hne:es ≠ []:=by intro e;subst e;simp at h
    have hd:=List.dropLast_concat_getLast hne
    have hi:=ih es.dropLast (by simp [h])
    rw [<- hd,tagsD_snoc]
    have hm:=tagsD_tidy es.dropLast
    by_cases hh:Maps.has (tagsD es.dropLast) (.int .u32 ((es.getLast hne).tag:Int))=true
    . rw [Maps.size_put hm,hh];simp;omega
    . have hh':Maps.has (tagsD es.dropLast) (.int .u32 ((es.getLast hne).tag:Int))=false:=by simpa using hh
      rw [Maps.size_put hm,hh'];simp;omega
 exact this _ es rfl
theorem set_at {α:Type} (xs:List α) (k j:Nat) (x:α) (hk:k < xs.length):(xs.set k x)[j]?=if j=k then some x else xs[j]?:=by
 rw [List.getElem?_set]
 by_cases h:k=j
 . subst h;simp [hk]
 . rw [if_neg h,if_neg (fun e=>h e.symm)]
def evItem (e:Ev):Value:=itemV 1 e.key e.t e.v (e.tag:Int)
theorem add_run (d:RunD) (r:RunS) (k P M:Nat) (p:Pane) (e:Ev) (w:World) (h:RunAt w d r) (hd:d.Ps[k]?=some (P,M)) (hp:r.ps[k]?=some p) (hin:r.inside<=k) (he:e.tag < 4294967296) (hn:p.evs.length < 1000000000) :
 Calls Tryz.prog 149 #[.pointer (some ⟨P,0,none⟩),evItem e] w fun en w'=>en=.returned (.tuple #[])/\RunAt w' d { r with ps:=r.ps.set k ⟨p.first,p.last,p.evs++[e]⟩ }/\Kept (fun x=>x=P\/x=M) w w':=by
 have hpa:=h.each k P M p hd hp
 obtain ⟨n0,-,htag⟩:=hpa.tags
 obtain ⟨m,-,htag,hm⟩:=ownsMap_tight htag
 have hsz:=size_tagsD p.evs
 have hmP:=(Cb.of hpa.pane).neM hpa.tags.mb
 have hkd:k < d.Ps.length:=(List.getElem?_eq_some_iff.1 hd).1
 have hkr:k < r.ps.length:=by rw [<- h.len];exact hkd
 have hmem:=List.mem_of_getElem? hd
 refine (add_pane P M p.first p.last (cntV p.evs) (sumV p.evs) (loV p.evs) (hiV p.evs) e.key e.t e.v e.tag m (tagsD p.evs) w he hpa.pane htag (by omega) hmP).mono ?_
 rintro en w' ⟨rfl,hp',ht',hk'⟩
 refine ⟨rfl,?_,hk'⟩
 rw [cntV_snoc p.evs e,sumV_snoc,<- loV_snoc,<- hiV_snoc] at hp'
 rw [<- tagsD_snoc] at ht'
 obtain ⟨m',hm',ht',-⟩:=ownsMap_tight ht'
 have hkeep:∀ x,d.foot x->x ≠ P->x ≠ M->w'.heap[x]?=w.heap[x]?:=fun x hx h1 h2=>hk'.block x (h.lt hx) (fun hh=>hh.elim h1 h2)
 have hCP:=Cb.of hpa.pane
 have hCM:=hpa.tags.mb
 have hR:d.R ≠ P/\d.R ≠ M:=⟨(Cb.of h.run).ne hCP (by decide),(Cb.of h.run).neM hCM⟩
 have hpv:∀ x,d.pv.ownBlock=some x->x ≠ P/\x ≠ M:=fun x hx=>⟨(h.panes.cb hx).ne hCP (by decide),(h.panes.cb hx).neM hCM⟩
 have hparts:∀ x,partsFoot d.b d.cv d.gv x->x ≠ P/\x ≠ M:=fun x hx=>by
  rcases h.parts.kind hx with ⟨_,c⟩ | ⟨_,c⟩ | ⟨hx2,c⟩ | ⟨_,c⟩ | c
  . exact ⟨c.ne hCP (by decide),c.neM hCM⟩
  . exact ⟨c.ne hCP (by decide),c.neM hCM⟩
  . exact ⟨fun e=>hCP.neM c e.symm,fun e=>h.tcM _ hmem (by show M=_;omega)⟩
  . exact ⟨c.ne hCP (by decide),c.neM hCM⟩
  . exact ⟨c.ne hCP (by decide),c.neM hCM⟩
 refine ⟨?_,?_,?_,?_,h.nodP,h.nodM,h.tcM,?_,?_⟩
 . rw [hkeep d.R (.inl rfl) hR.1 hR.2];exact h.run
 . exact h.panes.congr (fun x hx=>hkeep x (.inr (.inl hx)) (hpv x hx).1 (hpv x hx).2)
 . show d.Ps.length=(r.ps.set k _).length
   rw [List.length_set];exact h.len
 . intro i P' M' p' h1 h2
   simp only at h2
   rw [set_at _ _ _ _ hkr] at h2
   by_cases hik:i=k
   . subst hik
     rw [if_pos rfl] at h2
     rw [hd] at h1
     simp only [Option.some.injEq,Prod.mk.injEq] at h1 h2
     obtain ⟨rfl,rfl⟩:=h1
     subst h2
     exact ⟨hp',m',hm',ht'⟩
   . rw [if_neg hik] at h2
     have hi:=List.mem_of_getElem? h1
     have hpi:=h.each i P' M' p' h1 h2
     have e1:P' ≠ P:=fun e=>by
      have hi2:i < (d.Ps.map Prod.fst).length:=by simpa using (List.getElem?_eq_some_iff.1 h1).1
      have:=(List.getElem?_inj hi2 h.nodP (i:=i) (j:=k)).1 (by rw [List.getElem?_map,List.getElem?_map,h1,hd];simp [e])
      exact hik this
     have e2:M' ≠ M:=fun e=>by
      have hi2:i < (d.Ps.map Prod.snd).length:=by simpa using (List.getElem?_eq_some_iff.1 h1).1
      have:=(List.getElem?_inj hi2 h.nodM (i:=i) (j:=k)).1 (by rw [List.getElem?_map,List.getElem?_map,h1,hd];simp [e])
      exact hik this
     have e3:=(Cb.of hpi.pane).neM hCM
     have e4:M' ≠ P:=fun e=>hCP.neM hpi.tags.mb e.symm
     exact hpi.congr (hkeep P' (.inr (.inr (.inl ⟨_,hi,.inl rfl⟩))) e1 e3) (hkeep M' (.inr (.inr (.inl ⟨_,hi,.inr rfl⟩))) e4 e2)
 . show r.inside<=(r.ps.set k _).length
   rw [List.length_set];exact h.ins
 . show PartsAt w' d.b d.cv d.gv ((r.ps.set k _).take r.inside)
   rw [List.take_set_of_le hin]
   exact h.parts.congr (fun x hx=>hkeep x (.inr (.inr (.inr hx))) (hparts x hx).1 (hparts x hx).2)
end Go.Proofs.YtcfngdnmpogaoaaGreat
namespace Go.Proofs.YtcfngdnmpogaoaaGreat
open Go.RowKit Go.MuLone
set_option maxHeartbeats 1600000
set_option maxRecDepth 20000
theorem downTo_wide (t n:Int) (w:World) (hn:1<=n) (hn2:n<=1099511627776) (h1:-4611686018427387904<=t) (h2:t<=4611686018427387904) :
 Calls Tryz.prog 169 #[.int .i64 t,.int .i64 n] w fun e w'=>e=.returned (.int .i64 (down t n))/\w'=w:=by
 have hz:¬ n=0:=by omega
 have hm:=tdiv_tmod_neg t n hn
 have b1:=Int.emod_nonneg t hz
 have b2:=Int.emod_lt_of_pos t (show 0 < n by omega)
 have e1:IntKind.i64.wrap (t.tmod n)=t.tmod n:=by rw [IntKind.wrap_i64,hm];split <;> omega
 by_cases hc:t % n ≠ 0/\t < 0
 . rw [if_pos hc] at hm
   have hlt:t.tmod n < 0:=by omega
   go_enter Tryz.func169,Tryz.ntmps169
   go_wp2
   go_ret
   refine ⟨ret_int ?_,rfl⟩
   rw [down]
 . rw [if_neg hc] at hm
   have hlt:¬ t.tmod n < 0:=by omega
   go_enter Tryz.func169,Tryz.ntmps169
   go_wp2
   go_ret
   refine ⟨ret_int ?_,rfl⟩
   rw [down]
theorem windowsOf_wide (size slide late keys t:Int) (w:World) (h1:1<=slide) (h2:slide<=size) (h3:size<=1099511627776) (t1:-4611686018427387904<=t - size) (t2:t<=2305843009213693952) :
 Calls Tryz.prog 148 #[confV size slide late keys,.int .i64 t] w fun e w'=>e=.returned (.agg #[.int .i64 (winFirst size slide t),.int .i64 (winLast slide t)])/\Below w.heap.size w w':=by
 have q1:=fun W=>downTo_wide (t - size) slide W h1 (by omega) (by omega) (by omega)
 have q2:=fun W=>downTo_wide t slide W h1 (by omega) (by omega) (by omega)
 have e1:wrap64 (t - size)=t - size:=by unfold wrap64;omega
 have e1':IntKind.i64.wrap (t - size)=t - size:=by rw [IntKind.wrap_i64];omega
 have b1:down (t - size) slide<=t - size/\t - size - slide < down (t - size) slide:=by
  unfold down
  have:=Int.emod_nonneg (t - size) (show slide ≠ 0 by omega)
  have:=Int.emod_lt_of_pos (t - size) (show 0 < slide by omega)
  omega
 have e2:IntKind.i64.wrap (down (t - size) slide+slide)=winFirst size slide t:=by rw [IntKind.wrap_i64,winFirst];omega
 have HW:Hid (winLast slide t=down t slide):=rfl
 rw [HW.out]
 generalize winFirst size slide t=F at *
 generalize down (t - size) slide=D1 at *
 generalize down t slide=D2 at *
 go_enter Tryz.func148,Tryz.ntmps148
 go_wp2_with fail
 refine wp_region_still_tail 14 (by kernel_rfl) (by kernel_rfl) ?_
 simp only [List.take_succ_cons,List.take_zero,List.drop_succ_cons,List.drop_zero]
 have hB:Hid (Below w.heap.size w ((w.alloc (.cells #[.int .i64 size,.int .i64 slide,.int .i64 late,.int .i64 keys] 42)).alloc (.cells #[.int .i64 0,.int .i64 0] 202))):=((Below.refl _ w).alloc (Nat.le_refl _) _).alloc (by simp) _
 have c0:((w.alloc (.cells #[.int .i64 size,.int .i64 slide,.int .i64 late,.int .i64 keys] 42)).alloc (.cells #[.int .i64 0,.int .i64 0] 202)).cell? ⟨w.heap.size,0,none⟩=some (.int .i64 size):=by simp
 have c1:((w.alloc (.cells #[.int .i64 size,.int .i64 slide,.int .i64 late,.int .i64 keys] 42)).alloc (.cells #[.int .i64 0,.int .i64 0] 202)).cell? ⟨w.heap.size,1,none⟩=some (.int .i64 slide):=by simp
 have hx:=(two_new w (.cells #[.int .i64 size,.int .i64 slide,.int .i64 late,.int .i64 keys] 42) (.cells #[.int .i64 0,.int .i64 0] 202)).2
 generalize (w.alloc (.cells #[.int .i64 size,.int .i64 slide,.int .i64 late,.int .i64 keys] 42)).alloc (.cells #[.int .i64 0,.int .i64 0] 202)=W1 at *
 change wpStill Tryz.prog _ W1.drew (fun a'=>wpList Tryz.prog _ _ _ a' W1.drew) _ _
 have c0:W1.drew.cell? ⟨w.heap.size,0,none⟩=some (.int .i64 size):=c0
 have c1:W1.drew.cell? ⟨w.heap.size,1,none⟩=some (.int .i64 slide):=c1
 have hx:W1.drew.heap[w.heap.size+1]?=some (.cells #[.int .i64 0,.int .i64 0] 202 (0,0)):=hx
 have hB:=hid hB.out.drew
 generalize W1.drew=W2 at *
 obtain ⟨x0,x1,xf,-⟩:=cells2At hx
 repeat still_step
 still_call (q1 _)
 repeat still_step
 still_call (q2 _)
 repeat still_step
 refine wpStill_nil ?_
 clear q1 q2
 go_wp2
 have hW:=cells2Put (u:=.int .i64 F) (v:=.int .i64 D2) hx
 have hB2:=(hB.out.setCell (p:=⟨w.heap.size+1,0,none⟩) (by simp) (.int .i64 F)).setCell (p:=⟨w.heap.size+1,1,none⟩) (by simp) (.int .i64 D2)
 clear x0 x1 xf
 generalize (W2.setCell ⟨w.heap.size+1,0,none⟩ (.int .i64 F)).setCell ⟨w.heap.size+1,1,none⟩ (.int .i64 D2)=W at *
 obtain ⟨x0,x1,xf,-⟩:=cells2At hW
 exact bodyPost_ret (v:=.agg #[.int .i64 F,.int .i64 D2]) (by simp [results,Tryz.results148,go_sem,x0,x1]) rfl ⟨rfl,hB2⟩
end Go.Proofs.YtcfngdnmpogaoaaGreat
