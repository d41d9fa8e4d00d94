import Derived.Test.YtcfngdnmpogaoaaGreatTkU19
import Derived.Test.YtcfngdnmpogaoaaGreatTkT07
namespace Go.Proofs.YtcfngdnmpogaoaaGreat
open Go.RowKit Go.MuLone
set_option maxHeartbeats 1600000
set_option maxRecDepth 20000
theorem breakOff_of (g n:Nat) (r:SCells) (s:SSrc) (w:World) (h:SF w g r) (hs:r.src[n]?=some s) (Q:World->Prop)
 (hm:∀ W,SF W g (r.setSrc n ⟨true,true,.slice none 0 0,0,false⟩).addBroken->Kept (fun k=>k=g) w W->Calls Tryz.prog 77 #[.pointer (some ⟨g,0,none⟩)] W fun e w'=>e=.returned (.tuple #[])/\Q w') :
 Calls Tryz.prog 71 #[.pointer (some ⟨g,0,none⟩),.pointer (some ⟨g,6+n*5,none⟩)] w fun e w'=>e=.returned (.tuple #[])/\Q w':=by
 have HR:=hid hm
 clear hm
 have c0:w.cell? ⟨g,6+n*5,none⟩=some (.bool s.opened):=h.cell (r.srcAt n 0 s hs (by omega))
 have c1:w.cell? ⟨g,6+n*5+1,none⟩=some (.bool s.broken):=h.cell (r.srcAt n 1 s hs (by omega))
 have c2:w.cell? ⟨g,6+n*5+2,none⟩=some s.unread:=h.cell (r.srcAt n 2 s hs (by omega))
 have c3:w.cell? ⟨g,6+n*5+3,none⟩=some (.int .i64 s.time):=h.cell (r.srcAt n 3 s hs (by omega))
 have c4:w.cell? ⟨g,6+n*5+4,none⟩=some (.bool s.is):=h.cell (r.srcAt n 4 s hs (by omega))
 have fz:∀ j,w.frozen? ⟨g,j,none⟩=false:=h.frozen
 have H1:=hid (h.putAll n s true true (.slice none 0 0) 0 false hs)
 have K1:Hid (Kept (fun k=>k=g) w (((((w.setCell ⟨g,6+n*5,none⟩ (.bool true)).setCell ⟨g,6+n*5+1,none⟩ (.bool true)).setCell ⟨g,6+n*5+2,none⟩ (.slice none 0 0)).setCell ⟨g,6+n*5+3,none⟩ (.int .i64 0)).setCell ⟨g,6+n*5+4,none⟩ (.bool false))):=by
  refine Kept.setCell ?_ ⟨g,_,none⟩ _ (fun _=>rfl)
  refine Kept.setCell ?_ ⟨g,_,none⟩ _ (fun _=>rfl)
  refine Kept.setCell ?_ ⟨g,_,none⟩ _ (fun _=>rfl)
  refine Kept.setCell ?_ ⟨g,_,none⟩ _ (fun _=>rfl)
  refine Kept.setCell ?_ ⟨g,_,none⟩ _ (fun _=>rfl)
  exact Kept.refl _ w
 clear h
 go_enter Tryz.func71,Tryz.ntmps71
 go_wp2_with fail
 generalize ((((w.setCell ⟨g,6+n*5,none⟩ (.bool true)).setCell ⟨g,6+n*5+1,none⟩ (.bool true)).setCell ⟨g,6+n*5+2,none⟩ (.slice none 0 0)).setCell ⟨g,6+n*5+3,none⟩ (.int .i64 0)).setCell ⟨g,6+n*5+4,none⟩ (.bool false)=W1 at *
 refine (add_any g 55 r.n.broken 1 W1 (H1.out.tailAt 9 rfl) (H1.out.frozen _)).mono ?_
 rintro e W2 ⟨rfl,rfl⟩
 have H2:Hid (SF (W1.setCell ⟨g,55,none⟩ (.int .i64 (wrap64 (r.n.broken+1)))) g (r.setSrc n ⟨true,true,.slice none 0 0,0,false⟩).addBroken):=H1.out.putTail 9 _ rfl rfl rfl
 have K2:Hid (Kept (fun k=>k=g) w (W1.setCell ⟨g,55,none⟩ (.int .i64 (wrap64 (r.n.broken+1))))):=K1.out.setCell ⟨g,55,none⟩ _ (fun _=>rfl)
 generalize W1.setCell ⟨g,55,none⟩ (.int .i64 (wrap64 (r.n.broken+1)))=W2 at *
 clear c0 c1 c2 c3 c4 fz
 go_wp2_with fail
 refine (HR.out W2 H2.out K2.out).mono ?_
 rintro e W6 ⟨rfl,h6⟩
 have H6:=hid h6
 clear h6
 go_wp2
 go_end0
 exact ⟨rfl,H6.out⟩
theorem set_map {α β:Type} (f:α->β) (l:List α) (n:Nat) (x:α):(l.set n x).map f=(l.map f).set n (f x):=by
 rw [List.map_set]
theorem modify_const (l:List SrcS) (n:Nat) (x:SrcS):l.modify n (fun _=>x)=l.set n x:=by
 refine List.ext_getElem? (fun i=>?_)
 rw [List.getElem?_modify,List.getElem?_set]
 by_cases hi:n=i
 . subst hi
   by_cases hl:n < l.length
   . simp [hl]
   . simp [hl]
 . simp [hi]
theorem set_fits {l:List SrcS} (h:SrcFits l) (n:Nat) (x:SrcS) (h1:-2305843009213693952<=x.time) (h2:x.time<=2305843009213693952):SrcFits (l.set n x):=fun s hs=>by
 rcases List.mem_or_eq_of_mem_set hs with hs | rfl
 . exact h s hs
 . exact ⟨h1,h2⟩
theorem breakOff_sp (g n:Nat) (lk:Int) (c:Cf) (sp:Sp) (us:List Value) (F:Nat->Prop) (T:Option Int) (w:World) (h:FlowSp w g lk c sp us F T) (hn:n < sp.src.length) (hE:sp.E.length<=100000000) :
 Calls Tryz.prog 71 #[.pointer (some ⟨g,0,none⟩),.pointer (some ⟨g,6+n*5,none⟩)] w fun e w'=>e=.returned (.tuple #[])/\FlowSp w' g lk c ((sp.break0 n).line c) (us.set n (.slice none 0 0)) (Grown F w) T/\Kept F w w'/\Bytes8 w w':=by
 obtain ⟨st,⟨r,gs,es,h1,rfl,rfl,rfl,h5⟩,h2,h3,h4,rfl⟩:=h
 have hsrc:r.src.map srcS=sp.src:=congrArg Sp.src h4
 obtain ⟨s,hs⟩:∃ s,r.src[n]?=some s:=⟨r.src[n]'(by rw [<- hsrc,List.length_map] at hn;exact hn),List.getElem?_eq_getElem _⟩
 refine breakOff_of g n r s w h1.sf hs _ (fun W h6 k6=>?_)
 have hk6:Kept (flowFoot g r gs es) w W:=k6.mono (fun k _ e=>.inl e)
 have hmod:Mod (stOf (r.setSrc n ⟨true,true,.slice none 0 0,0,false⟩).addBroken gs es) sp.E T:=h2.congr rfl rfl rfl rfl rfl rfl rfl rfl
 have hsp:spOf (stOf (r.setSrc n ⟨true,true,.slice none 0 0,0,false⟩).addBroken gs es) sp.E=sp.break0 n:=by
  rw [<- h4]
  unfold spOf Sp.break0 stOf
  simp only [Sp.mk.injEq,true_and]
  exact ⟨src_set r.src n s _ _ hs rfl,rfl,rfl,rfl⟩
 refine (moveLine_sp g r.lk (cfOf (stOf r gs es)) (sp.break0 n) ((r.src.map SSrc.unread).set n (.slice none 0 0)) F T W ⟨_,⟨_,gs,es,h1.turn k6 h6 rfl rfl,rfl,rfl,set_map _ _ _ _,fun k hk=>h5 k ?_⟩,hmod,?_,hsp,rfl⟩ hE).mono ?_
 . rcases hk with hk | hk | hk | hk
   . exact .inl hk
   . exact .inr (.inl hk)
   . exact .inr (.inr (.inl hk))
   . exact .inr (.inr (.inr hk))
 . show SrcFits (sp.src.modify n _)
   rw [modify_const]
   exact set_fits h3 n _ (by decide) (by decide)
 . rintro e w' ⟨rfl,h7,h8,h9⟩
   refine ⟨rfl,h7.mono (fun k hk=>?_),(hk6.mono (fun k _ e=>h5 k e)).trans h8,(h1.bytes8 hk6).trans h9⟩
   rcases hk with hk | hk
   . exact .inl hk
   . exact .inr (by have:=k6.size;omega)
end Go.Proofs.YtcfngdnmpogaoaaGreat
namespace Go.Proofs.YtcfngdnmpogaoaaGreat
open Go.RowKit Go.MuLone
set_option maxHeartbeats 3200000
set_option maxRecDepth 20000
theorem read_new (g o B:Nat) (v0 bv:Value) (l0 l:List UInt8) (w:World) (Q:World->Prop) (J:World->List UInt8->Prop)
 (c1:w.cell? ⟨g,o+1,none⟩=some (.bool false)) (c2:w.cell? ⟨g,o+2,none⟩=some v0) (hr0:Row w 5 1 v0 (l0.map byteV)) (hrb:Row w 5 1 bv (l.map byteV)) (hlen:l0.length+l.length<=140737488355328)
 (hJ0:J w (l0++l)) (hJb:∀ W W' L,J W L->Below W.heap.size W W'->J W' L)
 (hJd:∀ W L,J W L->unfShort L=false->unfOk L=true->L.length<=l0.length+l.length->Calls Tryz.prog 72 #[.pointer (some ⟨g,0,none⟩),.pointer (some ⟨g,o,none⟩),unfV L] W fun e W'=>e=.returned (.tuple #[])/\J W' (L.drop ((L.getD 0 0).toNat+3))/\Bytes8 W W')
 (hJx:∀ W L,J W L->unfShort L=false->unfOk L=false->Calls Tryz.prog 71 #[.pointer (some ⟨g,0,none⟩),.pointer (some ⟨g,o,none⟩)] W fun e W'=>e=.returned (.tuple #[])/\Q W')
 (hJs:∀ W L,J W L->B<=W.heap.size)
 (hJe:∀ W L v,J W L->unfShort L=true->Row W 5 1 v (L.map byteV)->(∀ k,v.ownBlock=some k->B<=k)->(∃ u,W.cell? ⟨g,o+2,none⟩=some u)/\W.frozen? ⟨g,o+2,none⟩=false/\Q (W.setCell ⟨g,o+2,none⟩ v)) :
 Calls Tryz.prog 45 #[.pointer (some ⟨g,0,none⟩),.pointer (some ⟨g,o,none⟩),bv] w fun e w'=>e=.returned (.tuple #[])/\Q w':=by
 obtain ⟨i5,hi,hz0,hz1,hz2⟩:=info_parts info5
 have HJ0:=hid hJ0
 have HJb:=hid hJb
 have HJd:=hid hJd
 have HJx:=hid hJx
 have HJs:=hid hJs
 have HJe:=hid hJe
 have HR0:=hid hr0
 have HRb:=hid hrb
 obtain ⟨a0,k0,hv0,hk0⟩:=hr0.slice
 obtain ⟨ab,kb,hvb,hkb⟩:=hrb.slice
 rw [List.length_map] at hv0 hvb hk0 hkb
 subst hv0 hvb
 clear hJ0 hJb hJd hJx hJs hJe hr0 hrb
 go_enter Tryz.func45,Tryz.ntmps45
 go_wp2_with fail
 refine (concat_two w.heap.size (.slice a0 l0.length k0) (.slice ab l.length kb) l0 l _ (by simp) (by simp) (by simp) (HR0.out.alloc _) (HRb.out.alloc _) hlen).mono ?_
 rintro e W0 ⟨vL,rfl,hrL,hgL,hbL⟩
 have HRL:=hid hrL
 have HJL:Hid (J W0 (l0++l)):=HJb.out w W0 _ HJ0.out (((Below.refl _ w).alloc (Nat.le_refl _) _).trans (hbL.mono (by simp)))
 clear hrL hgL hbL c1 c2
 go_wp2
 go_loopw [6] (fun lv wr=>∃ L:List UInt8,Row wr 5 1 lv (L.map byteV)/\J wr L/\L.length<=l0.length+l.length) (fun lv _=>lenV lv)
 case atStart=>exact ⟨l0++l,HRL.out,HJL.out,by simp⟩
 case round=>
  obtain ⟨L,hrow,hJ,hLl⟩:=hrel
  have HRow:=hid hrow
  have HJ:=hid hJ
  have HU:=unframe_row u6 L wr hrow (by omega)
  clear hrow hJ
  cases hsh:unfShort L with
  | true=>
    obtain ⟨e1,e2,e3⟩:=unf_short L hsh
    rw [e1,e2,e3] at HU
    unfold itemNone at HU
    clear e1 e2 e3
    go_wp2_with fail
    refine HU.mono ?_
    rintro e W1 ⟨rfl,hb⟩
    have HJ1:Hid (J (W1.alloc (.cells #[.int .i64 0,.string ⟨#[]⟩,.int .i64 0,.int .i64 0,.int .u32 0] 28)) L):=HJb.out _ _ _ HJ.out (hb.trans ((Below.refl _ W1).alloc (Nat.le_refl _) _ |>.mono hb.size))
    have HR1:Hid (Row (W1.alloc (.cells #[.int .i64 0,.string ⟨#[]⟩,.int .i64 0,.int .i64 0,.int .u32 0] 28)) 5 1 u6 (L.map byteV)):=(HRow.out.bytes8 (Bytes8.ofBelow hb)).alloc _
    clear hb HU
    have S1:Src Tryz.prog 1 30 u6 L.length (L.map byteV) (W1.alloc (.cells #[.int .i64 0,.string ⟨#[]⟩,.int .i64 0,.int .i64 0,.int .u32 0] 28)):=by
     have:=Row.src (P:=Tryz.prog) _ HR1.out (oneCell_bytes L) Tryz.underlying30
     rw [List.length_map] at this;exact this
    go_wp2_with (at_builtin;go_must (refine wpList_append_any _ rfl _ _ _ _ rfl 5 i5 (.int .u8 0) 1 1 Tryz.underlying30 hi hz0 hz1 hz2 rfl Nat.one_pos (.slice none 0 0) [] rfl (Row.nil _ _ _) u6 L.length (L.map byteV) rfl S1 ?h63 ?hby ?next))
    case h63=>simp only [maxLen,List.length_nil];omega
    case hby=>simp only [List.length_nil];omega
    intro v3 W3 ha hnil
    have hb3:=ha.below (B:=(W1.alloc (.cells #[.int .i64 0,.string ⟨#[]⟩,.int .i64 0,.int .i64 0,.int .u32 0] 28)).heap.size) (by intro g hg;simp [Value.ownBlock] at hg) (Nat.le_refl _)
    have hr3:=ha.row
    rw [List.nil_append] at hr3
    obtain ⟨⟨u,hu⟩,hfz,hQ⟩:=HJe.out W3 L v3 (HJb.out _ _ _ HJ1.out hb3) hsh hr3 (ha.blk (by intro g hg;simp [Value.ownBlock] at hg) (HJs.out _ _ HJ1.out))
    obtain ⟨a3,k3,hv3,-⟩:=hr3.slice
    subst hv3
    have HQ:=hid hQ
    clear ha hb3 hr3 hQ S1 hnil
    go_wp2
    go_end0
    have hQ:=HQ.out
    rw [List.length_map] at hQ
    exact ⟨rfl,hQ⟩
  | false=>
    cases hok:unfOk L with
    | false=>
      obtain ⟨e1,e2,e3⟩:=unf_bad L hsh hok
      rw [e1,e2,e3] at HU
      unfold itemNone at HU
      clear e1 e2 e3
      go_wp2_with fail
      refine HU.mono ?_
      rintro e W1 ⟨rfl,hb⟩
      have HJ1:Hid (J (W1.alloc (.cells #[.int .i64 0,.string ⟨#[]⟩,.int .i64 0,.int .i64 0,.int .u32 0] 28)) L):=HJb.out _ _ _ HJ.out (hb.trans ((Below.refl _ W1).alloc (Nat.le_refl _) _ |>.mono hb.size))
      clear hb HU
      go_wp2_with fail
      refine (HJx.out _ _ HJ1.out hsh hok).mono ?_
      rintro e W3 ⟨rfl,hQ⟩
      go_wp2
      refine bodyPost_ret (results_none rfl _ _ _) rfl ?_
      exact ⟨rfl,hQ⟩
    | true=>
      obtain ⟨hn,hnl⟩:=unfN_pos L hsh hok
      have hE:unfE L=0:=by rw [unfE,hsh,hok];rfl
      obtain ⟨ik,key,it,iv,itg,hV⟩:=unfV_cells L
      rw [hn,hE,hV] at HU
      have HD:=HJd.out
      have HV:=hid hV
      obtain ⟨gL,oL,nL,cL,hu6,hnL,hcL⟩:=HRow.out.shape (by intro hh;have:=congrArg List.length hh;simp at this;subst this;simp at hnl)
      rw [List.length_map,Nat.mul_one] at hnL
      subst hnL
      subst hu6
      generalize hN:(L.getD 0 0).toNat+3=N at *
      have hN3:3<=N:=by omega
      have HN:=hid hN
      clear hN hn hE hV
      go_wp2_with fail
      refine HU.mono ?_
      rintro e W1 ⟨rfl,hb⟩
      have HJ1:Hid (J (W1.alloc (.cells #[.int .i64 ik,.string key,.int .i64 it,.int .i64 iv,.int .u32 itg] 28)) L):=HJb.out _ _ _ HJ.out (hb.trans ((Below.refl _ W1).alloc (Nat.le_refl _) _ |>.mono hb.size))
      have HR1:Hid (Row (W1.alloc (.cells #[.int .i64 ik,.string key,.int .i64 it,.int .i64 iv,.int .u32 itg] 28)) 5 1 (.slice (some ⟨gL,oL,none⟩) L.length cL) (L.map byteV)):=(HRow.out.bytes8 (Bytes8.ofBelow hb)).alloc _
      have HD1:=HD _ L HJ1.out hsh hok hLl
      rw [HV.out,HN.out] at HD1
      clear hb HU HD
      go_wp2_with fail
      refine HD1.mono ?_
      rintro e W3 ⟨rfl,hJ3,hB3⟩
      have HJ3:=hid hJ3
      have HR3:=hid (HR1.out.bytes8 hB3)
      clear hJ3 hB3 HD1
      by_cases hNc:N < cL
      . have hNc':¬ cL=N:=by omega
        go_wp2
        go_roundw
        case rel=>
         refine ⟨L.drop N,?_,HJ3.out,by rw [List.length_drop];omega⟩
         rw [List.map_drop]
         exact HR3.out.rest N hnl hNc
        case measure=>simp [lenV];omega
      . have hNc':cL=N:=by omega
        subst hNc'
        go_wp2
        go_roundw
        case rel=>
         refine ⟨L.drop cL,?_,HJ3.out,by rw [List.length_drop];omega⟩
         rw [List.drop_of_length_le (by omega)]
         exact HR3.out.empty
        case measure=>simp [lenV];omega
theorem read_broken (g o:Nat) (bv:Value) (w:World) (c1:w.cell? ⟨g,o+1,none⟩=some (.bool true)) :
 Calls Tryz.prog 45 #[.pointer (some ⟨g,0,none⟩),.pointer (some ⟨g,o,none⟩),bv] w fun e w'=>e=.returned (.tuple #[])/\w'=w:=by
 go_enter Tryz.func45,Tryz.ntmps45
 go_wp2
 refine bodyPost_ret (results_none rfl _ _ _) rfl ?_
 exact ⟨rfl,rfl⟩
end Go.Proofs.YtcfngdnmpogaoaaGreat
namespace Go.Proofs.YtcfngdnmpogaoaaGreat
open Go.RowKit Go.MuLone
variable {F:Nat->Prop} {T:Option Int} {c:Cf} {g:Nat} {lk:Int} {sp:Sp} {us:List Value} {w:World}
def evOf (body:List UInt8):Ev:=⟨str ((body.drop 2).take (body.getD 1 0).toNat),toI (numb ((body.drop (2+(body.getD 1 0).toNat)).take 8)),toI (numb ((body.drop (10+(body.getD 1 0).toNat)).take 8)),numb (body.drop (18+(body.getD 1 0).toNat))⟩
def itemF (c:Cf) (sp:Sp) (n:Nat) (L:List UInt8):Sp:=
 if (unfBody L).getD 0 0=1 then (sp.event0 c n (evOf (unfBody L))).line c else (sp.mark0 n (toI (numb ((unfBody L).drop 1)))).line c
def feedF (c:Cf) (n:Nat):Nat->Sp->List UInt8->Sp × List UInt8
 | 0,sp,L=>(sp,L)
 | f+1,sp,L=>if unfShort L then (sp,L) else if unfOk L then feedF c n f (itemF c sp n L) (L.drop ((L.getD 0 0).toNat+3)) else ((sp.break0 n).line c,[])
theorem line_E (c:Cf) (s:Sp):(s.line c).E=s.E:=rfl
theorem line_src (c:Cf) (s:Sp):(s.line c).src=s.src:=rfl
theorem mark0_E (s:Sp) (n:Nat) (t:Int):(s.mark0 n t).E=s.E:=rfl
theorem mark0_src (s:Sp) (n:Nat) (t:Int):(s.mark0 n t).src=s.src.modify n (raisedS (clampT t)):=rfl
theorem itemF_len (c:Cf) (sp:Sp) (n:Nat) (L:List UInt8):(itemF c sp n L).E.length<=sp.E.length+1:=by
 unfold itemF
 split
 . rw [line_E];exact event0_len c sp n _
 . rw [line_E,mark0_E];exact Nat.le_succ _
theorem toI_range (x:Nat):-9223372036854775808<=toI x/\toI x<=9223372036854775807:=by
 unfold toI wrap64;omega
theorem evOf_fits (body:List UInt8) (h:isEvent body=true):(evOf body).fits:=by
 have hr:=toI_range (numb ((body.drop (10+(body.getD 1 0).toNat)).take 8))
 refine ⟨hr.1,hr.2,?_⟩
 unfold isEvent at h
 simp only [Bool.and_eq_true,decide_eq_true_eq] at h
 have hl:=numb_lt (body.drop (18+(body.getD 1 0).toNat))
 rw [List.length_drop,h.2.2.2,show 22+(body.getD 1 0).toNat - (18+(body.getD 1 0).toNat)=4 from by omega] at hl
 exact hl
theorem do_sp (g n:Nat) (lk:Int) (c:Cf) (sp:Sp) (us:List Value) (F:Nat->Prop) (T:Option Int) (L:List UInt8) (w:World) (h:FlowSp w g lk c sp us F T) (hn:n < sp.src.length) (hs:unfShort L=false) (ho:unfOk L=true) (hE:sp.E.length < 100000000) :
 Calls Tryz.prog 72 #[.pointer (some ⟨g,0,none⟩),.pointer (some ⟨g,6+n*5,none⟩),unfV L] w fun en w'=>en=.returned (.tuple #[])/\FlowSp w' g lk c (itemF c sp n L) us (Grown F w) T/\Kept F w w'/\Bytes8 w w':=by
 have hb:itemOfB (unfBody L)=true:=by unfold unfOk at ho;simp at ho;exact ho.2
 rw [show unfV L=itemOfV (unfBody L) from by rw [unfV,hs,ho];rfl]
 unfold itemOfV itemF
 rw [if_pos hb]
 by_cases h1:(unfBody L).getD 0 0=1
 . rw [if_pos h1,if_pos h1]
   have he:isEvent (unfBody L)=true:=by rw [itemOfB,if_pos h1] at hb;exact hb
   exact do_event_sp g n lk c sp us F T (evOf (unfBody L)) w h hn (evOf_fits _ he) hE
 . rw [if_neg h1,if_neg h1]
   exact do_mark_sp g n lk c sp us F T ⟨#[]⟩ (toI (numb ((unfBody L).drop 1))) 0 0 w h hn (by omega)
structure Rests (w:World) (us:List Value) (rs:List (List UInt8)) (F:Nat->Prop):Prop where
 ul:us.length=8
 rl:rs.length=8
 row:∀ (i:Nat) (v:Value) (l:List UInt8),us[i]?=some v->rs[i]?=some l->Row w 5 1 v (l.map byteV)/\(∀ k,v.ownBlock=some k->F k)/\l.length<=300
theorem FlowSp.lock (h:FlowSp w g lk c sp us F T) (k:Int):FlowSp (w.setCell ⟨g,0,none⟩ (.int .i32 k)) g k c sp us F T/\F g:=by
 obtain ⟨st,⟨r,gs,es,h1,rfl,rfl,rfl,h5⟩,h2⟩:=h
 refine ⟨⟨_,⟨r.lock k,gs,es,h1.turn ((Kept.refl _ w).setCell ⟨g,0,none⟩ _ (fun _=>rfl)) (h1.sf.putLock k) rfl rfl,rfl,rfl,rfl,fun j hj=>h5 j ?_⟩,h2⟩,h5 g (.inl rfl)⟩
 rcases hj with hj | hj | hj | hj
 . exact .inl hj
 . exact .inr (.inl hj)
 . exact .inr (.inr (.inl hj))
 . exact .inr (.inr (.inr hj))
theorem FlowSp.lockAt (h:FlowSp w g lk c sp us F T):w.cell? ⟨g,0,none⟩=some (.int .i32 lk)/\w.frozen? ⟨g,0,none⟩=false:=by
 obtain ⟨st,⟨r,gs,es,h1,rfl,rfl,rfl,h5⟩,h2⟩:=h
 exact ⟨h1.sf.lockAt rfl,h1.sf.frozen 0⟩
theorem FlowSp.srcLen (h:FlowSp w g lk c sp us F T):sp.src.length=8/\us.length=8:=by
 obtain ⟨st,⟨r,gs,es,h1,rfl,rfl,rfl,h5⟩,h2,h3,h4,h6⟩:=h
 have e:sp.src=r.src.map srcS:=(congrArg Sp.src h4).symm
 rw [e,List.length_map,List.length_map]
 exact ⟨h1.sf.len,h1.sf.len⟩
theorem FlowSp.unread (h:FlowSp w g lk c sp us F T) (n:Nat) (hn:n < 8) (v:Value) :
 (∃ u,w.cell? ⟨g,6+n*5+2,none⟩=some u)/\w.frozen? ⟨g,6+n*5+2,none⟩=false/\FlowSp (w.setCell ⟨g,6+n*5+2,none⟩ v) g lk c sp (us.set n v) F T:=by
 obtain ⟨st,⟨r,gs,es,h1,rfl,rfl,rfl,h5⟩,h2,h3,h4,h6⟩:=h
 obtain ⟨s,hs⟩:∃ s,r.src[n]?=some s:=⟨r.src[n]'(by rw [h1.sf.len];exact hn),List.getElem?_eq_getElem _⟩
 have hset:(r.src.set n ⟨s.opened,s.broken,v,s.time,s.is⟩).map srcS=r.src.map srcS:=by
  refine List.ext_getElem? (fun i=>?_)
  rw [List.getElem?_map,List.getElem?_set,List.getElem?_map]
  by_cases hi:n=i
  . subst hi
    have hl:n < r.src.length:=(List.getElem?_eq_some_iff.1 hs).1
    rw [if_pos rfl,if_pos hl,hs];rfl
  . simp [hi]
 have hst:stOf (r.setSrc n ⟨s.opened,s.broken,v,s.time,s.is⟩) gs es=stOf r gs es:=by
  unfold stOf SCells.setSrc
  simp only [hset]
 refine ⟨⟨_,h1.sf.cell (r.srcAt n 2 s hs (by omega))⟩,h1.sf.frozen _,stOf r gs es,⟨r.setSrc n ⟨s.opened,s.broken,v,s.time,s.is⟩,gs,es,h1.turn ((Kept.refl _ w).setCell ⟨g,_,none⟩ _ (fun _=>rfl)) (h1.sf.putSrc n 2 s _ v hs (by omega) rfl) rfl rfl,hst,rfl,set_map _ _ _ _,fun j hj=>h5 j ?_⟩,h2,h3,h4,h6⟩
 rcases hj with hj | hj | hj | hj
 . exact .inl hj
 . exact .inr (.inl hj)
 . exact .inr (.inr (.inl hj))
 . exact .inr (.inr (.inr hj))
theorem short_len (L:List UInt8) (h:unfShort L=true):L.length<=300:=by
 unfold unfShort at h
 simp only [decide_eq_true_eq] at h
 have:=(L.getD 0 0).toNat_lt
 omega
theorem Grown.of {W:World} (hs:w.heap.size<=W.heap.size) {k:Nat} (h:Grown (Grown F w) W k):Grown F w k:=by
 rcases h with h | h
 . exact h
 . exact .inr (by omega)
theorem Kept.grown {W W':World} (h:Kept F w W) (k:Kept (Grown F w) W W'):Kept F w W':=h.step k (fun i hi hh=>hh.elim id (fun e=>by omega))
end Go.Proofs.YtcfngdnmpogaoaaGreat
namespace Go.Proofs.YtcfngdnmpogaoaaGreat
open Go.RowKit Go.MuLone
variable {F:Nat->Prop} {T:Option Int} {c:Cf} {g:Nat} {rs:List (List UInt8)} {sp:Sp} {us:List Value} {w w':World}
def FlowOn (w:World) (g:Nat) (c:Cf) (sp:Sp) (rs:List (List UInt8)) (F:Nat->Prop) (T:Option Int):Prop:=∃ us,FlowSp w g 0 c sp us F T/\Rests w us rs F
theorem FlowOn.mono {F':Nat->Prop} (h:FlowOn w g c sp rs F T) (hF:∀ k,F k->F' k):FlowOn w g c sp rs F' T:=by
 obtain ⟨us,h1,h2⟩:=h
 exact ⟨us,h1.mono hF,h2.ul,h2.rl,fun i v l hu hr=>⟨(h2.row i v l hu hr).1,fun k hk=>hF k ((h2.row i v l hu hr).2.1 k hk),(h2.row i v l hu hr).2.2⟩⟩
theorem FlowOn.kept {X:Nat->Prop} (h:FlowOn w g c sp rs F T) (hk:Kept X w w') (hX:∀ k,F k->¬ X k):FlowOn w' g c sp rs F T:=by
 obtain ⟨us,h1,h2⟩:=h
 exact ⟨us,h1.kept hk hX,h2.ul,h2.rl,fun i v l hu hr=>⟨(h2.row i v l hu hr).1.kept hk (fun k hk=>hX k ((h2.row i v l hu hr).2.1 k hk)),(h2.row i v l hu hr).2⟩⟩
theorem FlowOn.below (h:FlowOn w g c sp rs F T) (hb:Below w.heap.size w w'):FlowOn w' g c sp rs F T:=h.kept (Kept.ofBelow hb (fun _=>False)) (fun _ _ h=>h)
theorem Rests.step {F':Nat->Prop} (h:Rests w us rs F) (hb:Bytes8 w w') (hF:∀ k,F k->F' k):Rests w' us rs F':=
 ⟨h.ul,h.rl,fun i v l hu hr=>⟨(h.row i v l hu hr).1.bytes8 hb,fun k hk=>hF k ((h.row i v l hu hr).2.1 k hk),(h.row i v l hu hr).2.2⟩⟩
theorem Rests.set (h:Rests w us rs F) (n:Nat) (v:Value) (l:List UInt8) (hr:Row w 5 1 v (l.map byteV)) (hF:∀ k,v.ownBlock=some k->F k) (hl:l.length<=300):Rests w (us.set n v) (rs.set n l) F:=by
 refine ⟨by rw [List.length_set];exact h.ul,by rw [List.length_set];exact h.rl,fun i u m hu hm=>?_⟩
 rw [List.getElem?_set] at hu hm
 by_cases hi:n=i
 . subst hi
   rw [if_pos rfl] at hu hm
   split at hu
   . split at hm
     . cases hu;cases hm;exact ⟨hr,hF,hl⟩
     . cases hm
   . cases hu
 . rw [if_neg hi] at hu hm;exact h.row i u m hu hm
theorem Rests.at (h:Rests w us rs F) (n:Nat) (hn:n < 8):∃ v l,us[n]?=some v/\rs[n]?=some l:=⟨_,_,List.getElem?_eq_getElem (by rw [h.ul];exact hn),List.getElem?_eq_getElem (by rw [h.rl];exact hn)⟩
theorem feed_on (g n:Nat) (c:Cf) (sp:Sp) (rs:List (List UInt8)) (F:Nat->Prop) (T:Option Int) (bv:Value) (l l0:List UInt8) (s:SrcS) (w:World) (h:FlowOn w g c sp rs F T) (hs:sp.src[n]?=some s) (ho:s.opened=true) (hbr:s.broken=false) (hl0:rs[n]?=some l0) (hb:Row w 5 1 bv (l.map byteV)) (hE:sp.E.length+l.length < 90000000) :
 Calls Tryz.prog 20 #[.pointer (some ⟨g,0,none⟩),.int .i64 n,bv] w fun e w'=>e=.returned (.int .i64 0)/\FlowOn w' g c (feedF c n ((l0++l).length+1) sp (l0++l)).1 (rs.set n (feedF c n ((l0++l).length+1) sp (l0++l)).2) (Grown F w) T/\Kept F w w':=by
 obtain ⟨us,h1,h2⟩:=h
 have hlen:=h1.srcLen
 have hn:n < sp.src.length:=(List.getElem?_eq_some_iff.1 hs).1
 have hn8:n < 8:=by omega
 obtain ⟨v0,-,hv0,-⟩:=h2.at n hn8
 obtain ⟨hr0,hf0,hlen0⟩:=h2.row n v0 l0 hv0 hl0
 obtain ⟨st,⟨r,gs,es,h3,rfl,hlk,rfl,h5⟩,hm,hfit,h4,h6⟩:=h1
 have hsrc:r.src.map srcS=sp.src:=congrArg Sp.src h4
 have hFg:F g:=h5 g (.inl rfl)
 obtain ⟨x,hx⟩:∃ x,r.src[n]?=some x:=⟨r.src[n]'(by rw [h3.sf.len];exact hn8),List.getElem?_eq_getElem _⟩
 have hxs:srcS x=s:=by
  rw [<- hsrc,List.getElem?_map,hx] at hs;simpa using hs
 have hxu:x.unread=v0:=by
  rw [List.getElem?_map,hx] at hv0;simpa using hv0
 have hxo:x.opened=true:=by rw [<- ho,<- hxs];rfl
 have hxb:x.broken=false:=by rw [<- hbr,<- hxs];rfl
 generalize hR:feedF c n ((l0++l).length+1) sp (l0++l)=R
 refine (feed_of g n r x bv w h3.sf hlk hx hxo (fun W=>∃ v,FlowSp W g 1 c R.1 ((r.src.map SSrc.unread).set n v) (Grown F w) T/\Kept F w W/\Bytes8 w W/\Row W 5 1 v (R.2.map byteV)/\(∀ k,v.ownBlock=some k->w.heap.size<=k)/\R.2.length<=300) (fun W hW=>?_) (fun W1 q1 k1=>?_)).mono ?_
 . obtain ⟨v,hW,_⟩:=hW
   exact hW.lockAt
 . have kf1:Kept F w W1:=k1.mono (fun k _ e=>by rw [e];exact hFg)
   have kb1:Bytes8 w W1:=h3.bytes8 (k1.mono (fun k _ e=>.inl e))
   have f1:FlowSp W1 g 1 c sp (r.src.map SSrc.unread) (Grown F w) T:=by
    refine ⟨_,⟨r.lock 1,gs,es,h3.turn k1 q1 rfl rfl,rfl,rfl,rfl,fun j hj=>.inl (h5 j ?_)⟩,hm,hfit,h4,h6⟩
    rcases hj with hj | hj | hj | hj
    . exact .inl hj
    . exact .inr (.inl hj)
    . exact .inr (.inr (.inl hj))
    . exact .inr (.inr (.inr hj))
   refine read_new g (6+n*5) w.heap.size v0 bv l0 l W1 _ (fun W L=>∃ sp' f,FlowSp W g 1 c sp' (r.src.map SSrc.unread) (Grown F w) T/\Kept F w W/\Bytes8 w W/\sp'.E.length+L.length<=sp.E.length+(l0++l).length/\L.length < f/\feedF c n f sp' L=R)
    (by rw [<- hxb];exact q1.cell (SCells.srcAt _ n 1 x hx (by omega))) (by rw [<- hxu];exact q1.cell (SCells.srcAt _ n 2 x hx (by omega))) (hr0.bytes8 kb1) (hb.bytes8 kb1) (by omega)
    ⟨sp,_,f1,kf1,kb1,Nat.le_refl _,Nat.lt_succ_self _,hR⟩ ?_ ?_ ?_ ?_ ?_
   . rintro W W' L ⟨sp',f,a1,a2,a3,a4⟩ hbl
     exact ⟨sp',f,a1.below hbl,a2.step (Kept.ofBelow hbl (fun _=>False)) (fun _ _ h=>h.elim),a3.trans (Bytes8.ofBelow hbl),a4⟩
   . rintro W L ⟨sp',f,a1,a2,a3,a4,a5,a6⟩ hsh hok _
     obtain ⟨f,rfl⟩:∃ f',f=f'+1:=⟨f - 1,by omega⟩
     rw [feedF,hsh,hok] at a6
     simp only [Bool.false_eq_true,if_false,if_true] at a6
     have hne:0 < L.length:=by
      unfold unfShort at hsh
      simp only [decide_eq_false_iff_not] at hsh
      omega
     have hlen2:(l0++l).length<=300+l.length:=by rw [List.length_append];omega
     refine (do_sp g n 1 c sp' _ (Grown F w) T L W a1 (by rw [a1.srcLen.1];exact hn8) hsh hok (by omega)).mono ?_
     rintro e W' ⟨rfl,b1,b2,b3⟩
     refine ⟨rfl,⟨_,f,b1.mono (fun k hk=>Grown.of a2.size hk),a2.grown b2,a3.trans b3,?_,?_,a6⟩,b3⟩
     . have:=itemF_len c sp' n L
       rw [List.length_drop];omega
     . rw [List.length_drop];omega
   . rintro W L ⟨sp',f,a1,a2,a3,a4,a5,a6⟩ hsh hok
     obtain ⟨f,rfl⟩:∃ f',f=f'+1:=⟨f - 1,by omega⟩
     rw [feedF,hsh,hok] at a6
     simp only [Bool.false_eq_true,if_false] at a6
     have hlen2:(l0++l).length<=300+l.length:=by rw [List.length_append];omega
     refine (breakOff_sp g n 1 c sp' _ (Grown F w) T W a1 (by rw [a1.srcLen.1];exact hn8) (by omega)).mono ?_
     rintro e W' ⟨rfl,b1,b2,b3⟩
     subst a6
     exact ⟨rfl,.slice none 0 0,b1.mono (fun k hk=>Grown.of a2.size hk),a2.grown b2,a3.trans b3,Row.nil _ _ _,fun k hk=>by simp [Value.ownBlock] at hk,by simp⟩
   . rintro W L ⟨sp',f,a1,a2,a3,a4,a5,a6⟩
     exact a2.size
   . rintro W L v ⟨sp',f,a1,a2,a3,a4,a5,a6⟩ hsh hrow hnew
     obtain ⟨f,rfl⟩:∃ f',f=f'+1:=⟨f - 1,by omega⟩
     rw [feedF,hsh] at a6
     simp only [if_true] at a6
     subst a6
     obtain ⟨u1,u2,u3⟩:=a1.unread n hn8 v
     have kk:Kept (Grown F w) W (W.setCell ⟨g,6+n*5+2,none⟩ v):=(Kept.refl _ W).setCell ⟨g,_,none⟩ _ (fun _=>.inl hFg)
     have hb8:Bytes8 W (W.setCell ⟨g,6+n*5+2,none⟩ v):=by
      obtain ⟨st',⟨r',gs',es',z1,_⟩,_⟩:=a1
      exact z1.bytes8 ((Kept.refl _ W).setCell ⟨g,_,none⟩ _ (fun _=>.inl rfl))
     exact ⟨u1,u2,v,u3,a2.grown kk,a3.trans hb8,hrow.bytes8 hb8,hnew,short_len L hsh⟩
 . rintro e w' ⟨rfl,W,⟨v,a1,a2,a3,a4,a5,a6⟩,rfl⟩
   obtain ⟨b1,b2⟩:=a1.lock 0
   have kk:Kept (Grown F w) W (W.setCell ⟨g,0,none⟩ (.int .i32 0)):=(Kept.refl _ W).setCell ⟨g,_,none⟩ _ (fun _=>.inl hFg)
   have hb8:Bytes8 W (W.setCell ⟨g,0,none⟩ (.int .i32 0)):=by
    obtain ⟨st',⟨r',gs',es',z1,_⟩,_⟩:=a1
    exact z1.bytes8 ((Kept.refl _ W).setCell ⟨g,_,none⟩ _ (fun _=>.inl rfl))
   exact ⟨rfl,⟨_,b1,(h2.step (a3.trans hb8) (fun k hk=>.inl hk)).set n v R.2 (a4.bytes8 hb8) (fun k hk=>.inr (a5 k hk)) a6⟩,a2.grown kk⟩
end Go.Proofs.YtcfngdnmpogaoaaGreat
namespace Go.Proofs.YtcfngdnmpogaoaaGreat
open Go.RowKit Go.MuLone
set_option maxHeartbeats 1600000
theorem SCells.relock (r:SCells) (h:r.lk=0):(r.lock 1).lock 0=r:=by cases r;simp only at h;subst h;rfl
theorem feed_refused (g:Nat) (n:Int) (r:SCells) (bv:Value) (code:Int) (w:World) (h:SF w g r) (hlk:r.lk=0) (hc:code=3\/code=4)
 (hop:∀ W,SF W g (r.lock 1)->Calls Tryz.prog 44 #[.pointer (some ⟨g,0,none⟩),.int .i64 n] W fun e w'=>e=.returned (.tuple #[.pointer none,.int .i64 code])/\w'=W) :
 Calls Tryz.prog 20 #[.pointer (some ⟨g,0,none⟩),.int .i64 n,bv] w fun e w'=>e=.returned (.int .i64 code)/\SF w' g r/\Kept (fun k=>k=g) w w':=by
 have h0:=h.lockAt hlk
 have f0:=h.frozen 0
 have H1:=hid (h.putLock 1)
 have K1:Hid (Kept (fun k=>k=g) w (w.setCell ⟨g,0,none⟩ (.int .i32 1))):=(Kept.refl _ w).setCell ⟨g,0,none⟩ _ (fun _=>rfl)
 have HO:=hid hop
 clear h hop
 go_enter_defers Tryz.func20,Tryz.ntmps20
 go_wp2_with (go_at_call 42;refine (lock_free muLib ⟨g,0,none⟩ _ h0 f0).mono ?_;rintro e w' ⟨rfl,rfl⟩)
 generalize w.setCell ⟨g,0,none⟩ (.int .i32 1)=W1 at *
 clear h0 f0
 refine (HO.out W1 H1.out).mono ?_
 rintro e w' ⟨rfl,rfl⟩
 rcases hc with rfl | rfl
 all_goals
  go_wp2_with fail
  refine leaves_cons (f:=43) (args:=#[.pointer (some ⟨g,0,none⟩)]) (by simp) (by simp [go_sem]) ?_
  refine (unlock_deferred muLib ⟨g,0,none⟩ .returning _ (H1.out.lockAt rfl) (H1.out.frozen _)).mono ?_
  rintro e u' w'' ⟨rfl,rfl,rfl⟩
  refine ⟨_,results_tmp rfl _ _ _,rfl,?_,K1.out.setCell ⟨g,0,none⟩ _ (fun _=>rfl)⟩
  have:=H1.out.putLock 0
  rw [r.relock hlk] at this;exact this
theorem close_refused (g:Nat) (n:Int) (r:SCells) (code:Int) (w:World) (h:SF w g r) (hlk:r.lk=0) (hc:code=3\/code=4)
 (hop:∀ W,SF W g (r.lock 1)->Calls Tryz.prog 44 #[.pointer (some ⟨g,0,none⟩),.int .i64 n] W fun e w'=>e=.returned (.tuple #[.pointer none,.int .i64 code])/\w'=W) :
 Calls Tryz.prog 49 #[.pointer (some ⟨g,0,none⟩),.int .i64 n] w fun e w'=>e=.returned (.int .i64 code)/\SF w' g r/\Kept (fun k=>k=g) w w':=by
 have h0:=h.lockAt hlk
 have f0:=h.frozen 0
 have H1:=hid (h.putLock 1)
 have K1:Hid (Kept (fun k=>k=g) w (w.setCell ⟨g,0,none⟩ (.int .i32 1))):=(Kept.refl _ w).setCell ⟨g,0,none⟩ _ (fun _=>rfl)
 have HO:=hid hop
 clear h hop
 go_enter_defers Tryz.func49,Tryz.ntmps49
 go_wp2_with (go_at_call 42;refine (lock_free muLib ⟨g,0,none⟩ _ h0 f0).mono ?_;rintro e w' ⟨rfl,rfl⟩)
 generalize w.setCell ⟨g,0,none⟩ (.int .i32 1)=W1 at *
 clear h0 f0
 refine (HO.out W1 H1.out).mono ?_
 rintro e w' ⟨rfl,rfl⟩
 rcases hc with rfl | rfl
 all_goals
  go_wp2_with fail
  refine leaves_cons (f:=43) (args:=#[.pointer (some ⟨g,0,none⟩)]) (by simp) (by simp [go_sem]) ?_
  refine (unlock_deferred muLib ⟨g,0,none⟩ .returning _ (H1.out.lockAt rfl) (H1.out.frozen _)).mono ?_
  rintro e u' w'' ⟨rfl,rfl,rfl⟩
  refine ⟨_,results_tmp rfl _ _ _,rfl,?_,K1.out.setCell ⟨g,0,none⟩ _ (fun _=>rfl)⟩
  have:=H1.out.putLock 0
  rw [r.relock hlk] at this;exact this
theorem open_out (g:Nat) (n:Int) (r:SCells) (w:World) (h:SF w g r) (hlk:r.lk=0) (hn:¬ (0<=n/\n < 8)) :
 Calls Tryz.prog 22 #[.pointer (some ⟨g,0,none⟩),.int .i64 n] w fun e w'=>e=.returned (.int .i64 3)/\SF w' g r/\Kept (fun k=>k=g) w w':=by
 have hi:=isSource_any n
 rw [decide_eq_false hn] at hi
 have h0:=h.lockAt hlk
 have f0:=h.frozen 0
 have H1:=hid (h.putLock 1)
 have K1:Hid (Kept (fun k=>k=g) w (w.setCell ⟨g,0,none⟩ (.int .i32 1))):=(Kept.refl _ w).setCell ⟨g,0,none⟩ _ (fun _=>rfl)
 clear h hn
 go_enter_defers Tryz.func22,Tryz.ntmps22
 go_wp2_with (go_at_call 42;refine (lock_free muLib ⟨g,0,none⟩ _ h0 f0).mono ?_;rintro e w' ⟨rfl,rfl⟩)
 generalize w.setCell ⟨g,0,none⟩ (.int .i32 1)=W1 at *
 clear h0 f0
 refine (hi _).mono ?_
 rintro e w' ⟨rfl,rfl⟩
 go_wp2_with fail
 refine leaves_cons (f:=43) (args:=#[.pointer (some ⟨g,0,none⟩)]) (by simp) (by simp [go_sem]) ?_
 refine (unlock_deferred muLib ⟨g,0,none⟩ .returning _ (H1.out.lockAt rfl) (H1.out.frozen _)).mono ?_
 rintro e u' w'' ⟨rfl,rfl,rfl⟩
 refine ⟨_,results_tmp rfl _ _ _,rfl,?_,K1.out.setCell ⟨g,0,none⟩ _ (fun _=>rfl)⟩
 have:=H1.out.putLock 0
 rw [r.relock hlk] at this;exact this
theorem open_no (g n:Nat) (r:SCells) (s:SSrc) (w:World) (h:SF w g r) (hlk:r.lk=0) (hs:r.src[n]?=some s) (ho:s.opened=true) :
 Calls Tryz.prog 22 #[.pointer (some ⟨g,0,none⟩),.int .i64 n] w fun e w'=>e=.returned (.int .i64 4)/\SF w' g r/\Kept (fun k=>k=g) w w':=by
 have hn:n < 8:=by have:=(List.getElem?_eq_some_iff.1 hs).1;have:=h.len;omega
 have hi:=isSource_any n
 rw [decide_eq_true (show 0<=(n:Int)/\(n:Int) < 8 by omega)] at hi
 have h0:=h.lockAt hlk
 have f0:=h.frozen 0
 have H1:=hid (h.putLock 1)
 have K1:Hid (Kept (fun k=>k=g) w (w.setCell ⟨g,0,none⟩ (.int .i32 1))):=(Kept.refl _ w).setCell ⟨g,0,none⟩ _ (fun _=>rfl)
 clear h
 go_enter_defers Tryz.func22,Tryz.ntmps22
 go_wp2_with (go_at_call 42;refine (lock_free muLib ⟨g,0,none⟩ _ h0 f0).mono ?_;rintro e w' ⟨rfl,rfl⟩)
 generalize w.setCell ⟨g,0,none⟩ (.int .i32 1)=W1 at *
 have c0:W1.cell? ⟨g,6+n*5,none⟩=some (.bool true):=H1.out.cell (by rw [<- ho];exact (r.lock 1).srcAt n 0 s hs (by omega))
 clear h0 f0
 refine (hi _).mono ?_
 rintro e w' ⟨rfl,rfl⟩
 go_wp2_with fail
 refine leaves_cons (f:=43) (args:=#[.pointer (some ⟨g,0,none⟩)]) (by simp) (by simp [go_sem]) ?_
 refine (unlock_deferred muLib ⟨g,0,none⟩ .returning _ (H1.out.lockAt rfl) (H1.out.frozen _)).mono ?_
 rintro e u' w'' ⟨rfl,rfl,rfl⟩
 refine ⟨_,results_tmp rfl _ _ _,rfl,?_,K1.out.setCell ⟨g,0,none⟩ _ (fun _=>rfl)⟩
 have:=H1.out.putLock 0
 rw [r.relock hlk] at this;exact this
theorem new_no (size slide late keys:Int) (w:World) (hc:¬ isConf size slide late keys) :
 Calls Tryz.prog 41 #[confV size slide late keys] w fun e w'=>e=.returned (.tuple #[.pointer none,.int .i64 1])/\Below w.heap.size w w':=by
 have HC:=hid hc
 clear hc
 go_enter Tryz.func41,Tryz.ntmps41
 go_wp2_with fail
 refine (isConfig_any size slide late keys _).mono ?_
 rintro e W ⟨⟨b,rfl,hb⟩,hB⟩
 have hbt:b=false:=by
  cases b with
  | false=>rfl
  | true=>exact absurd (hb.1 rfl) HC.out
 subst hbt
 have HB:Hid (Below w.heap.size w W):=((Below.refl _ w).alloc (Nat.le_refl _) _).trans (hB.mono (by simp))
 clear hB hb
 go_wp2_with fail
 exact bodyPost_ret (results_tmp2 rfl _ _ _) rfl ⟨rfl,HB.out⟩
end Go.Proofs.YtcfngdnmpogaoaaGreat
