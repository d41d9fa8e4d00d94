import Derived.Test.YtcfngdnmpogaoaaGreatTkU25
import Derived.Test.YtcfngdnmpogaoaaGreatTkU17
import Derived.Test.YtcfngdnmpogaoaaGreatTkU26
namespace Go.Proofs.YtcfngdnmpogaoaaGreat
open Go.RowKit
variable {G:Nat->Prop} {T:Option Int × Nat} {c:Cf} {g:Nat} {rs:List (List UInt8)} {sp:Sp} {w:World}
set_option maxHeartbeats 6400000
set_option maxRecDepth 20000
theorem RefRel.cut {r:RCells} {d:Nat} (h:RefRel c sp rs r d) (n:Nat) (s:SrcS) (t:RSrc) (hs:sp.src[n]?=some s) (ht:r.src[n]?=some t) (ho:s.opened=true) (b:ByteArray) (L:List UInt8) (hL:b.data.toList=L):RefRel c sp (rs.set n L) (r.setSrc n ⟨t.opened,t.broken,t.reached,t.reach,b⟩) d:=by
 have hlt:n < r.src.length:=(List.getElem?_eq_some_iff.1 ht).1
 refine ⟨h.size,h.slide,h.late,h.keys,h.line,h.lined,h.n,⟨?_,fun i x y hx hy=>?_⟩,by rw [List.length_set];exact h.rl,fun i t' l ht' hl hb'=>?_,h.done,h.ok,fun i s' hs' ho'=>?_⟩
 . show sp.src.length=(r.src.set n _).length
   rw [List.length_set];exact h.src.1
 . have hy2:(r.src.set n ⟨t.opened,t.broken,t.reached,t.reach,b⟩)[i]?=some y:=hy
   rw [List.getElem?_set] at hy2
   by_cases hi:n=i
   . subst hi
     rw [if_pos rfl,if_pos hlt] at hy2
     simp only [Option.some.injEq] at hy2
     subst hy2
     have:=h.src.2 n x t hx ht
     exact ⟨this.op,this.br,this.off,this.re⟩
   . rw [if_neg hi] at hy2
     exact h.src.2 i x y hx hy2
 . have ht2:(r.src.set n ⟨t.opened,t.broken,t.reached,t.reach,b⟩)[i]?=some t':=ht'
   rw [List.getElem?_set] at ht2 hl
   by_cases hi:n=i
   . subst hi
     rw [if_pos rfl,if_pos hlt] at ht2
     rw [if_pos rfl] at hl
     simp only [Option.some.injEq] at ht2
     subst ht2
     split at hl
     . simp only [Option.some.injEq] at hl
       rw [<- hl];exact hL
     . cases hl
   . rw [if_neg hi] at ht2 hl
     exact h.rest i t' l ht2 hl hb'
 . rw [List.getElem?_set]
   by_cases hi:n=i
   . subst hi
     rw [hs] at hs'
     simp only [Option.some.injEq] at hs'
     rw [<- hs',ho] at ho'
     cases ho'
   . rw [if_neg hi]
     exact h.shut i s' hs' ho'
theorem RefRel.brk {r:RCells} {d:Nat} (h:RefRel c sp rs r d) (n:Nat) (s:SrcS) (t:RSrc) (hs:sp.src[n]?=some s) (ht:r.src[n]?=some t) (ho:s.opened=true):RefRel c (sp.break0 n) (rs.set n []) { (r.setSrc n ⟨t.opened,true,t.reached,t.reach,t.rest⟩) with n:={ r.n with broken:=wrap64 (r.n.broken+1) } } d:=by
 have hlt:n < r.src.length:=(List.getElem?_eq_some_iff.1 ht).1
 have hop:=(h.src.2 n s t hs ht).op
 refine ⟨h.size,h.slide,h.late,h.keys,h.line,h.lined,by rw [h.n];rfl,⟨?_,fun i x y hx hy=>?_⟩,by rw [List.length_set];exact h.rl,fun i t' l ht' hl hb'=>?_,h.done,h.ok,fun i s' hs' ho'=>?_⟩
 . show (sp.src.modify n _).length=(r.src.set n _).length
   rw [List.length_modify,List.length_set];exact h.src.1
 . have hx2:(sp.src.modify n fun _=>⟨true,true,0,false⟩)[i]?=some x:=hx
   have hy2:(r.src.set n ⟨t.opened,true,t.reached,t.reach,t.rest⟩)[i]?=some y:=hy
   rw [List.getElem?_set] at hy2
   by_cases hi:n=i
   . subst hi
     rw [if_pos rfl,if_pos hlt] at hy2
     rw [modify_at _ hs] at hx2
     simp only [Option.some.injEq] at hx2 hy2
     subst hx2;subst hy2
     exact ⟨hop.trans ho,rfl,fun _=>rfl,fun _ hh=>by cases hh⟩
   . rw [modify_ne _ hi] at hx2
     rw [if_neg hi] at hy2
     exact h.src.2 i x y hx2 hy2
 . have ht2:(r.src.set n ⟨t.opened,true,t.reached,t.reach,t.rest⟩)[i]?=some t':=ht'
   rw [List.getElem?_set] at ht2 hl
   by_cases hi:n=i
   . subst hi
     rw [if_pos rfl,if_pos hlt] at ht2
     simp only [Option.some.injEq] at ht2
     subst ht2
     cases hb'
   . rw [if_neg hi] at ht2 hl
     exact h.rest i t' l ht2 hl hb'
 . have hs2:(sp.src.modify n fun _=>⟨true,true,0,false⟩)[i]?=some s':=hs'
   rw [List.getElem?_set]
   by_cases hi:n=i
   . subst hi
     rw [modify_at _ hs] at hs2
     simp only [Option.some.injEq] at hs2
     rw [<- hs2] at ho'
     cases ho'
   . rw [modify_ne _ hi] at hs2
     rw [if_neg hi]
     exact h.shut i s' hs2 ho'
theorem itemF_open (c:Cf) (sp:Sp) (n:Nat) (L:List UInt8) (s:SrcS) (hs:sp.src[n]?=some s) (ho:s.opened=true) (hb:s.broken=false):∃ s',(itemF c sp n L).src[n]?=some s'/\s'.opened=true/\s'.broken=false:=by
 have hr:∀ x,∃ s',(sp.src.modify n (raisedS x))[n]?=some s'/\s'.opened=true/\s'.broken=false:=fun x=>by
  refine ⟨raisedS x s,by rw [List.getElem?_modify,hs];simp,?_,?_⟩
  . rw [raisedS_opened];exact ho
  . unfold raisedS;split
    . exact hb
    . exact hb
 unfold itemF
 split
 . rw [line_src]
   unfold Sp.event0 Sp.raise
   (repeat' split)
   . exact ⟨s,hs,ho,hb⟩
   . exact hr _
   . exact ⟨s,hs,ho,hb⟩
   . exact hr _
 . rw [line_src,mark0_src];exact hr _
theorem Ref.mono {G':Nat->Prop} (h:Ref T w g c sp rs G) (hG:∀ k,G k->G' k):Ref T w g c sp rs G':=by
 obtain ⟨r,ds,h1,h2⟩:=h
 exact ⟨r,ds,h1.mono hG,h2⟩
theorem Ref.kept {w':World} {X:Nat->Prop} (h:Ref T w g c sp rs G) (hk:Kept X w w') (hX:∀ k,G k->¬ X k):Ref T w' g c sp rs G:=by
 obtain ⟨r,ds,h1,h2⟩:=h
 exact ⟨r,ds,h1.kept hk hX,h2⟩
theorem Ref.below {w':World} (h:Ref T w g c sp rs G) (hb:Below w.heap.size w w'):Ref T w' g c sp rs G:=h.kept (Kept.ofBelow hb (fun _=>False)) (fun _ _ hh=>hh)
theorem Ref.look (h:Ref T w g c sp rs G) {n:Nat} {s:SrcS} {L:List UInt8} (hs:sp.src[n]?=some s) (ho:s.opened=true) (hb:s.broken=false) (hL:rs[n]?=some L) :
 ∃ b:ByteArray,b.data.toList=L/\w.cell? ⟨g,4+n*5+1,none⟩=some (.bool false)/\w.cell? ⟨g,4+n*5+4,none⟩=some (.string b)/\(∀ j,w.frozen? ⟨g,j,none⟩=false)/\(∃ x,w.cell? ⟨g,53,none⟩=some (.int .i64 x))/\n < 8/\g < w.heap.size /\
 (∀ b' L',b'.data.toList=L'->Ref T (w.setCell ⟨g,4+n*5+4,none⟩ (.string b')) g c sp (rs.set n L') G/\Kept G w (w.setCell ⟨g,4+n*5+4,none⟩ (.string b'))):=by
 obtain ⟨r,ds,h1,h2,h3,hpd⟩:=h
 obtain ⟨t,ht,hst⟩:=h2.src.at hs
 have hn8:n < 8:=by have:=(List.getElem?_eq_some_iff.1 ht).1;have:=h1.rev.rf.len;omega
 have htb:=hst.br.trans hb
 refine ⟨t.rest,h2.rest n t L ht hL htb,?_,h1.rev.rf.cell (r.srcAt n 4 t ht (by omega)),h1.rev.rf.frozen,⟨_,h1.rev.rf.tailAt 9 rfl⟩,hn8,h1.rev.rf.lt,fun b' L' hb'=>?_⟩
 . rw [<- htb];exact h1.rev.rf.cell (r.srcAt n 1 t ht (by omega))
 . have hk:Kept (fun k=>k=g) w (w.setCell ⟨g,4+n*5+4,none⟩ (.string b')):=(Kept.refl _ w).setCell ⟨g,_,none⟩ _ (fun _=>rfl)
   have hrf:=h1.rev.rf.putSrc n 4 t ⟨t.opened,t.broken,t.reached,t.reach,b'⟩ (.string b') ht (by omega) rfl
   have hne:r.events.ownBlock ≠ some g:=fun x=>(h1.rev.ev.cb x).ne (Cb.of h1.rev.rf.blk) (by decide) rfl
   have hrv:REv (w.setCell ⟨g,4+n*5+4,none⟩ (.string b')) g (r.setSrc n ⟨t.opened,t.broken,t.reached,t.reach,b'⟩) sp.E:=⟨hrf,h1.rev.ev.setCell _ _ (fun hh=>hne hh)⟩
   obtain ⟨b1,b2⟩:=h1.turn hrv rfl (hk.mono (fun k _ e=>.inl e)) (fun k hk=>.inl hk)
   refine ⟨⟨_,ds,⟨b1.rev,b1.done,h1.me,h1.ev,h1.dn,h1.tg⟩,h2.cut n s t hs ht ho b' L' hb',h3,hpd⟩,b2⟩
theorem Ref.off (h:Ref T w g c sp rs G) {n:Nat} {s:SrcS} (hs:sp.src[n]?=some s) (ho:s.opened=true) (hc:CfOk c) (hE:sp.E.length<=200000) (x:Int) (hx:w.cell? ⟨g,53,none⟩=some (.int .i64 x)) :
 Calls Tryz.prog 80 #[.pointer (some ⟨g,0,none⟩)] ((w.setCell ⟨g,4+n*5+1,none⟩ (.bool true)).setCell ⟨g,53,none⟩ (.int .i64 (wrap64 (x+1)))) fun e w'=>e=.returned (.tuple #[])/\Ref T w' g c ((sp.break0 n).line c) (rs.set n []) (Grown G w)/\Kept G w w':=by
 obtain ⟨r,ds,h1,h2,h3,hpd⟩:=h
 obtain ⟨t,ht,hst⟩:=h2.src.at hs
 have hxx:x=r.n.broken:=by
  have:=h1.rev.rf.tailAt 9 (v:=.int .i64 r.n.broken) rfl
  rw [hx] at this
  simpa using this
 subst hxx
 have hne:r.events.ownBlock ≠ some g:=fun x=>(h1.rev.ev.cb x).ne (Cb.of h1.rev.rf.blk) (by decide) rfl
 have hr1:=h1.rev.rf.putSrc n 1 t ⟨t.opened,true,t.reached,t.reach,t.rest⟩ (.bool true) ht (by omega) rfl
 have hr2:RF ((w.setCell ⟨g,4+n*5+1,none⟩ (.bool true)).setCell ⟨g,53,none⟩ (.int .i64 (wrap64 (r.n.broken+1)))) g { (r.setSrc n ⟨t.opened,true,t.reached,t.reach,t.rest⟩) with n:={ r.n with broken:=wrap64 (r.n.broken+1) } }:=hr1.putTail 9 _ rfl rfl rfl
 have hk:Kept (fun k=>k=g) w ((w.setCell ⟨g,4+n*5+1,none⟩ (.bool true)).setCell ⟨g,53,none⟩ (.int .i64 (wrap64 (r.n.broken+1)))):=((Kept.refl (fun k=>k=g) w).setCell ⟨g,_,none⟩ _ (fun _=>rfl)).setCell ⟨g,_,none⟩ _ (fun _=>rfl)
 exact lines_then (sp':=sp.break0 n) hc h1 ⟨hr2,(h1.rev.ev.setCell _ _ (fun hh=>hne hh)).setCell _ _ (fun hh=>hne hh)⟩ rfl (hk.mono (fun k _ e=>.inl e)) (fun k hk=>.inl hk) (h2.brk n s t hs ht ho) (hpd.out h3 n ⟨true,true,0,false⟩ rfl _) hE
def restLen (g n:Nat) (w:World):Nat:=match w.cell? ⟨g,4+n*5+4,none⟩ with
 | some (.string b)=>b.size
 | _=>0
structure RLoop (T:Option Int × Nat) (g n:Nat) (c:Cf) (rs:List (List UInt8)) (G:Nat->Prop) (w:World) (M:Nat) (R:Sp × List UInt8) (W:World) (sp:Sp) (L:List UInt8) (f:Nat) (s:SrcS):Prop where
 ref:Ref T W g c sp (rs.set n L) (Grown G w)
 kept:Kept G w W
 src:sp.src[n]?=some s
 op:s.opened=true
 br:s.broken=false
 fuel:L.length < f
 res:feedF c n f sp L=R
 room:26*sp.E.length+L.length<=M
theorem rfeed_ref (w:World) (g n:Nat) (c:Cf) (sp:Sp) (rs:List (List UInt8)) (G:Nat->Prop) (b:ByteArray) (s:SrcS) (hc:CfOk c) (h:Ref T w g c sp rs G) (hs:sp.src[n]?=some s) (ho:s.opened=true) (hbr:s.broken=false) (l0:List UInt8) (hl0:rs[n]?=some l0) (hM:26*sp.E.length+(l0++b.data.toList).length<=5000000) (_hb:b.size<=5000000) :
 Calls Tryz.prog 57 #[.pointer (some ⟨g,0,none⟩),.int .i64 n,.string b] w fun e w'=>e=.returned (.int .i64 0)/\Ref T w' g c (feedF c n ((l0++b.data.toList).length+1) sp (l0++b.data.toList)).1 (rs.set n (feedF c n ((l0++b.data.toList).length+1) sp (l0++b.data.toList)).2) (Grown G w)/\Kept G w w':=by
 obtain ⟨R,HR⟩:∃ R,Hid (feedF c n ((l0++b.data.toList).length+1) sp (l0++b.data.toList)=R):=⟨_,rfl⟩
 rw [HR.out]
 obtain ⟨b0,hb0,c1,c4,fz,-,hn8,hglt,hput⟩:=h.look hs ho hbr hl0
 have c0:w.cell? ⟨g,4+n*5,none⟩=some (.bool true):=by
  obtain ⟨r,ds,h1,h2,h3⟩:=h
  obtain ⟨t,ht,hst⟩:=h2.src.at hs
  rw [<- ho,<- hst.op];exact h1.rev.rf.cell (r.srcAt n 0 t ht (by omega))
 have hsum:¬ 9223372036854775807 < b0.size+b.size:=by
  have e1:b0.size=l0.length:=by rw [<- hb0];exact (keyLen b0).symm
  have e2:=keyLen b
  rw [List.length_append] at hM
  omega
 have hcat:b0++b=str (l0++b.data.toList):=by rw [<- hb0,<- str_app,str_of,str_of]
 obtain ⟨L0,HL0⟩:∃ L,Hid (l0++b.data.toList=L):=⟨_,rfl⟩
 rw [HL0.out] at hcat hM
 obtain ⟨hput1,hput2⟩:=hput (str L0) L0 (str_data L0)
 have hrn:n < rs.length:=(List.getElem?_eq_some_iff.1 hl0).1
 have HS:Hid (RLoop T g n c rs G w 5000000 R (w.setCell ⟨g,4+n*5+4,none⟩ (.string (str L0))) sp L0 (L0.length+1) s):=
  ⟨hput1.mono (fun k hk=>.inl hk),hput2,hs,ho,hbr,Nat.lt_succ_self _,by rw [<- HL0.out];exact HR.out,hM⟩
 clear h hput hput1 hput2 hb0 hM
 go_enter Tryz.func57,Tryz.ntmps57
 go_wp2_with fail
 generalize w.setCell ⟨g,4+n*5+4,none⟩ (.string (str L0))=W0 at *
 clear c0 c1 c4 fz hcat HR HL0
 go_loopw [9] (fun _ wx=>∃ sp' L f s',RLoop T g n c rs G w 5000000 R wx sp' L f s') (fun _ wx=>restLen g n wx)
 case atStart=>exact ⟨sp,L0,_,s,HS.out⟩
 case round=>
  obtain ⟨sp',L,f,s',hrl⟩:=hrel
  have HI:=hid hrl
  have hLat:(rs.set n L)[n]?=some L:=by rw [List.getElem?_set,if_pos rfl,if_pos hrn]
  obtain ⟨bb,hbb,c1,c4,fz,⟨x,c53⟩,-,hglt',hput⟩:=hrl.ref.look hrl.src hrl.op hrl.br hLat
  have hsize:bb.size=L.length:=by rw [<- hbb];exact (keyLen bb).symm
  have hroom:=hrl.room
  have HM:Hid (restLen g n wr=L.length):=by show _=_;unfold restLen;rw [c4];exact hsize
  have Hput:=hid hput
  have hun:=runframe_any bb wr (by omega)
  rw [hbb] at hun
  obtain ⟨x1,x2,x3,x4,x5,hV⟩:=unfV_cells L
  have HV:=hid hV
  rw [hV] at hun
  obtain ⟨f,rfl⟩:∃ f',f=f'+1:=⟨f - 1,by have:=hrl.fuel;omega⟩
  have hres:=hrl.res
  rw [feedF] at hres
  clear hrl hput hV
  cases hsh:unfShort L with
  | true=>
    have e2:unfN L=0:=by rw [unfN,hsh];rfl
    have e3:unfE L=0:=by rw [unfE,hsh];rfl
    rw [e2,e3] at hun
    rw [hsh,if_pos rfl] at hres
    have HRes:=hid hres
    clear hres e2 e3
    go_wp2_with fail
    refine hun.mono ?_
    rintro e W1 ⟨rfl,hB⟩
    have HB:=hid hB
    clear hB c1 c4 fz c53 hun
    go_wp2_with fail
    go_ret
    rw [<- HRes.out]
    have hb2:=HB.out.alloc (HB.out.size) (.cells #[.int .i64 x1,.string x2,.int .i64 x3,.int .i64 x4,.int .u32 x5] 28)
    exact ⟨rfl,HI.out.ref.below hb2,HI.out.kept.step (Kept.ofBelow hb2 (fun _=>False)) (fun _ _ hh=>hh.elim)⟩
  | false=>
    rw [hsh,if_neg (by simp)] at hres
    cases hok:unfOk L with
    | false=>
      have e2:unfN L=0:=by rw [unfN,hsh,hok];rfl
      have e3:unfE L=2:=by rw [unfE,hsh,hok];rfl
      rw [e2,e3] at hun
      rw [hok,if_neg (by simp)] at hres
      have HRes:=hid hres
      clear hres e2 e3
      go_wp2_with fail
      refine hun.mono ?_
      rintro e W1 ⟨rfl,hB⟩
      have HB:=hid hB
      clear hB c1 c4 fz c53 hun
      go_upto_region 14 with fail
      have HB2:Hid (Below wr.heap.size wr (W1.alloc (.cells #[.int .i64 x1,.string x2,.int .i64 x3,.int .i64 x4,.int .u32 x5] 28))):=HB.out.alloc (HB.out.size) _
      generalize W1.alloc (.cells #[.int .i64 x1,.string x2,.int .i64 x3,.int .i64 x4,.int .u32 x5] 28)=W2 at *
      have hR2:=HI.out.ref.below HB2.out
      have HK2:Hid (Kept G w W2):=HI.out.kept.step (Kept.ofBelow HB2.out (fun _=>False)) (fun _ _ hh=>hh.elim)
      obtain ⟨b2,hb2,c1,c4,fz,⟨x,c53⟩,-,hglt2,-⟩:=hR2.look HI.out.src HI.out.op HI.out.br hLat
      have HL2:=hR2.off HI.out.src HI.out.op hc (by omega) x c53
      have HL:=hid HL2
      clear HL2 hR2 hb2
      go_wp2_with fail
      refine HL.out.mono ?_
      rintro e W3 ⟨rfl,hR3,hK3⟩
      have HR3:=hid hR3
      have HK3:=hid hK3
      clear hR3 hK3 c1 c4 fz c53 HL
      go_wp2_with fail
      go_ret
      rw [<- HRes.out]
      have hss:(rs.set n L).set n []=rs.set n []:=by rw [List.set_set]
      have:=HR3.out
      rw [hss] at this
      exact ⟨rfl,this.mono (fun k hk=>Grown.of HK2.out.size hk),HK2.out.grown HK3.out⟩
    | true=>
      have hk3:(L.getD 0 0).toNat+3<=L.length:=by
       unfold unfShort at hsh
       simp only [decide_eq_false_iff_not] at hsh;omega
      obtain ⟨K,HK⟩:∃ K,Hid ((L.getD 0 0).toNat+3=K):=⟨_,rfl⟩
      have hK3:3<=K:=by have:=HK.out;omega
      rw [HK.out] at hk3
      have e2:unfN L=(K:Int):=by rw [unfN,hsh,hok,<- HK.out];rfl
      have e3:unfE L=0:=by rw [unfE,hsh,hok];rfl
      rw [e2,e3] at hun
      rw [hok,if_pos rfl,HK.out] at hres
      have HRes:=hid hres
      have hK0:¬ (K:Int)=0:=by omega
      clear hres e2 e3
      go_wp2_with fail
      refine hun.mono ?_
      rintro e W1 ⟨rfl,hB⟩
      have HB:=hid hB
      clear hB c1 c4 fz c53 hun
      go_upto_region 18 with fail
      have HB2:Hid (Below wr.heap.size wr (W1.alloc (.cells #[.int .i64 x1,.string x2,.int .i64 x3,.int .i64 x4,.int .u32 x5] 28))):=HB.out.alloc (HB.out.size) _
      have hbx:=heap_alloc_new W1 (.cells #[.int .i64 x1,.string x2,.int .i64 x3,.int .i64 x4,.int .u32 x5] 28)
      have hBg:W1.heap.size ≠ g:=by have:=HB.out.size;omega
      generalize W1.alloc (.cells #[.int .i64 x1,.string x2,.int .i64 x3,.int .i64 x4,.int .u32 x5] 28)=W2 at *
      have hR2:=HI.out.ref.below HB2.out
      have HK2:Hid (Kept G w W2):=HI.out.kept.step (Kept.ofBelow HB2.out (fun _=>False)) (fun _ _ hh=>hh.elim)
      obtain ⟨b2,hb2,c1,c4,fz,-,-,hglt2,hput⟩:=hR2.look HI.out.src HI.out.op HI.out.br hLat
      have hs2:b2.size=L.length:=by rw [<- hb2];exact (keyLen b2).symm
      have hex:b2.extract K L.length=str (L.drop K):=by rw [extract_str,hb2,List.take_of_length_le (by rw [List.length_drop];exact Nat.le_refl _)]
      have hkb:(K:Int)<=(L.length:Int):=by omega
      obtain ⟨hP1,hP2⟩:=hput (str (L.drop K)) (L.drop K) (str_data _)
      have hitem:=ritem_ref _ g n c sp' _ (Grown G w) L s' hc hP1 HI.out.src HI.out.op HI.out.br hsh hok (by omega)
      rw [HV.out,List.set_set] at hitem
      have hd:=itemAt (blkOther hbx g (4+n*5+4) (.string (str (L.drop K))) (by omega))
      have HP2:=hid hP2
      have HIt:=hid hitem
      clear hitem hP1 hP2 hput hR2 hb2
      go_upto_region 19 with fail
      generalize W2.setCell ⟨g,4+n*5+4,none⟩ (.string (str (L.drop K)))=W3 at *
      clear c1 c4 fz hbx
      obtain ⟨d0,d1,d2,d3,d4⟩:=hd
      go_wp2_with fail
      refine HIt.out.mono ?_
      rintro e W4 ⟨rfl,hR4,hK4⟩
      have HR4:Hid (Ref T W4 g c (itemF c sp' n L) (rs.set n (L.drop K)) (Grown G w)):=hR4.mono (fun k hk=>by
       rcases hk with hk | hk
       . exact hk
       . have:=HK2.out.size;have:=HP2.out.size;exact .inr (by omega))
      have HK4:Hid (Kept G w W4):=HK2.out.grown (HP2.out.step hK4 (fun _ _ hh=>hh))
      clear hR4 hK4 HIt d0 d1 d2 d3 d4
      obtain ⟨s2,hs2,ho2,hb2⟩:=itemF_open c sp' n L s' HI.out.src HI.out.op HI.out.br
      have hLat2:(rs.set n (L.drop K))[n]?=some (L.drop K):=by rw [List.getElem?_set,if_pos rfl,if_pos hrn]
      have hheft:=feedF_heft c n 1 sp' L
      go_wp2_with fail
      go_roundw
      case rel=>
       refine ⟨itemF c sp' n L,L.drop K,f,s2,HR4.out,HK4.out,hs2,ho2,hb2,?_,HRes.out,?_⟩
       . have:=HI.out.fuel;rw [List.length_drop];omega
       . have h1:=feedF_heft c n 1 sp' L
         rw [feedF,hsh,hok,HK.out] at h1
         simp only [Bool.false_eq_true,if_false,if_true,feedF] at h1
         omega
      case measure=>
       obtain ⟨b4,hb4,-,q4,-⟩:=HR4.out.look hs2 ho2 hb2 hLat2
       rw [HM.out]
       unfold restLen
       rw [q4]
       show b4.size < _
       have:b4.size=(L.drop K).length:=by rw [<- hb4];exact (keyLen b4).symm
       rw [this,List.length_drop];omega
end Go.Proofs.YtcfngdnmpogaoaaGreat
namespace Go.Proofs.YtcfngdnmpogaoaaGreat
open Go.RowKit Go.MuLone
variable {T:Option Int} {T2:Option Int × Nat} {c:Cf} {g:Nat} {r:RCells} {rs:List (List UInt8)} {sp:Sp} {w:World}
theorem FlowOn.up {w':World} {F:Nat->Prop} (h:FlowOn w' g c sp rs F T):FlowOn w' g c sp rs (Grown F w) T:=h.mono (fun _ hk=>.inl hk)
theorem RefOn.evNe {E:List Ev} {ds:List WinX} {G:Nat->Prop} (h:RefOn w g r E ds G):∀ k,r.events.ownBlock=some k->¬ k=g:=fun k hk e=>by
 subst e;exact (h.rev.ev.cb hk).ne (Cb.of h.rev.rf.blk) (by decide) rfl
theorem RefOn.cells {W:World} {r':RCells} {E:List Ev} {ds:List WinX} {G:Nat->Prop} (h:RefOn w g r E ds G) (hr:RF W g r') (hd:r'.done=r.done) (he:r'.events=r.events) (hk:Kept (fun k=>k=g) w W):REv W g r' E/\RefOn W g r' E ds (Grown G w)/\Kept G w W:=by
 have h1:REv W g r' E:=⟨hr,by rw [he];exact h.rev.ev.kept hk h.evNe⟩
 exact ⟨h1,h.turn h1 hd (hk.mono (fun k _ e=>.inl e)) (fun k hk=>.inl (by rw [<- he];exact hk))⟩
theorem src_cases (_c:Cf) (sp:Sp) (n:Int) (h8:sp.src.length=8):¬ (0<=n/\n < 8)\/∃ (m:Nat) (s:SrcS),n=(m:Int)/\sp.src[m]?=some s:=by
 by_cases hn:0<=n/\n < 8
 . exact .inr ⟨n.toNat,sp.src[n.toNat]'(by omega),by omega,List.getElem?_eq_getElem _⟩
 . exact .inl hn
theorem least_open {l:List SrcS} {n:Nat}:leastS (l.modify n fun x=>⟨true,x.broken,x.time,x.is⟩)=leastS l:=by
 unfold leastS
 suffices h:∀ m,(l.modify n fun x=>⟨true,x.broken,x.time,x.is⟩).foldl leastStepS m=l.foldl leastStepS m from h _
 induction l generalizing n with
 | nil=>intro m;simp
 | cons a l ih=>
   intro m
   cases n with
   | zero=>rfl
   | succ n=>simp only [List.modify_succ_cons,List.foldl_cons];exact ih _
theorem RefRel.opened {d:Nat} (h:RefRel c sp rs r d) (n:Nat) (s:SrcS) (hs:sp.src[n]?=some s) (ho:s.opened=false):RefRel c (sp.open n) rs (r.setSrc n ⟨true,false,false,0,⟨#[]⟩⟩) d:=by
 obtain ⟨s1,s2,s3⟩:=h.shut n s hs ho
 obtain ⟨t,ht,-⟩:=h.src.at hs
 have hlt:n < r.src.length:=(List.getElem?_eq_some_iff.1 ht).1
 refine ⟨h.size,h.slide,h.late,h.keys,h.line,h.lined,h.n,⟨?_,fun i a b ha hb=>?_⟩,h.rl,fun i t' l ht' hl hb'=>?_,h.done,h.ok,fun i s' hs' ho'=>?_⟩
 . show (sp.src.modify n _).length=(r.src.set n _).length
   rw [List.length_modify,List.length_set];exact h.src.1
 . have ha2:(sp.src.modify n fun x=>⟨true,x.broken,x.time,x.is⟩)[i]?=some a:=ha
   have hb2:(r.src.set n ⟨true,false,false,0,⟨#[]⟩⟩)[i]?=some b:=hb
   rw [List.getElem?_set] at hb2
   by_cases hi:n=i
   . subst hi
     rw [if_pos rfl,if_pos hlt] at hb2
     rw [modify_at _ hs] at ha2
     simp only [Option.some.injEq] at ha2 hb2
     subst ha2;subst hb2
     exact ⟨rfl,s1.symm,fun _=>s2,fun _ _=>⟨s2.symm,fun hh=>by simp only [s2] at hh;cases hh⟩⟩
   . rw [modify_ne _ hi] at ha2
     rw [if_neg hi] at hb2
     exact h.src.2 i a b ha2 hb2
 . have ht2:(r.src.set n ⟨true,false,false,0,⟨#[]⟩⟩)[i]?=some t':=ht'
   rw [List.getElem?_set] at ht2
   by_cases hi:n=i
   . subst hi
     rw [if_pos rfl,if_pos hlt] at ht2
     simp only [Option.some.injEq] at ht2
     subst ht2
     rw [s3] at hl
     simp only [Option.some.injEq] at hl
     rw [<- hl]
   . rw [if_neg hi] at ht2
     exact h.rest i t' l ht2 hl hb'
 . have hs2:(sp.src.modify n fun x=>⟨true,x.broken,x.time,x.is⟩)[i]?=some s':=hs'
   by_cases hi:n=i
   . subst hi
     rw [modify_at _ hs] at hs2
     simp only [Option.some.injEq] at hs2
     rw [<- hs2] at ho'
     cases ho'
   . rw [modify_ne _ hi] at hs2
     exact h.shut i s' hs2 ho'
theorem open_two (f r:Nat) (c:Cf) (sp:Sp) (rs:List (List UInt8)) (n:Int) (h8:sp.src.length=8):∃ (x:Int) (sp':Sp),sp'.E=sp.E /\
 (∀ (w:World) (F:Nat->Prop),FlowOn w f c sp rs F T->Calls Tryz.prog 22 #[.pointer (some ⟨f,0,none⟩),.int .i64 n] w fun e w'=>e=.returned (.int .i64 x)/\FlowOn w' f c sp' rs (Grown F w) T/\Kept F w w') /\
 ∀ (w:World) (G:Nat->Prop),Ref T2 w r c sp rs G->Calls Tryz.prog 55 #[.pointer (some ⟨r,0,none⟩),.int .i64 n] w fun e w'=>e=.returned (.int .i64 x)/\Ref T2 w' r c sp' rs (Grown G w)/\Kept G w w':=by
 rcases src_cases c sp n h8 with hn | ⟨m,s,rfl,hs⟩
 . refine ⟨3,sp,rfl,fun w F h=>(open_out_on f n c sp rs F T w h hn).mono (fun e w' ⟨h1,h2,h3⟩=>⟨h1,h2.up,h3⟩),fun w G h=>(ropen_out r n w hn).mono ?_⟩
   rintro e w' ⟨rfl,rfl⟩
   exact ⟨rfl,h.mono (fun k hk=>.inl hk),Kept.refl _ _⟩
 . cases ho:s.opened with
   | true=>
     refine ⟨4,sp,rfl,fun w F h=>(open_no_on f m c sp rs F T s w h hs ho).mono (fun e w' ⟨h1,h2,h3⟩=>⟨h1,h2.up,h3⟩),fun w G h=>?_⟩
     obtain ⟨rr,ds,h1,h2,h3⟩:=id h
     obtain ⟨t,ht,hst⟩:=h2.src.at hs
     refine (ropen_no r m rr t w h1.rev.rf ht (hst.op.trans ho)).mono ?_
     rintro e w' ⟨rfl,rfl⟩
     exact ⟨rfl,h.mono (fun k hk=>.inl hk),Kept.refl _ _⟩
   | false=>
     refine ⟨0,sp.open m,rfl,fun w F h=>(open_on f m c sp rs F T s w h hs ho).mono (fun e w' ⟨h1,h2,h3⟩=>⟨h1,h2.up,h3⟩),fun w G h=>?_⟩
     obtain ⟨rr,ds,h1,h2,h3,hpd⟩:=h
     obtain ⟨t,ht,hst⟩:=h2.src.at hs
     refine (ropen_yes r m rr t w h1.rev.rf ht (hst.op.trans ho)).mono ?_
     rintro e w' ⟨rfl,a1,a2⟩
     obtain ⟨-,b2,b3⟩:=h1.cells a1 rfl rfl a2
     refine ⟨rfl,⟨_,ds,b2,h2.opened m s hs ho,?_,hpd.opened m⟩,b3⟩
     have e1:=congrArg Sp.lt h3
     have e2:=congrArg Sp.li h3
     unfold Sp.line lineF at *
     unfold Sp.open
     simp only [least_open] at *
     rw [e1,e2]
theorem RefRel.closed {d:Nat} (h:RefRel c sp rs r d) (n:Nat) (s:SrcS) (hs:sp.src[n]?=some s) (h8:sp.src.length=8):RefRel c (sp.close0 n) (rs.set n []) (r.setSrc n RSrc.zero) d:=by
 obtain ⟨t,ht,-⟩:=h.src.at hs
 have hlt:n < r.src.length:=(List.getElem?_eq_some_iff.1 ht).1
 refine ⟨h.size,h.slide,h.late,h.keys,h.line,h.lined,h.n,⟨?_,fun i a b ha hb=>?_⟩,by rw [List.length_set];exact h.rl,fun i t' l ht' hl hb'=>?_,h.done,h.ok,fun i s' hs' ho'=>?_⟩
 . show (sp.src.modify n _).length=(r.src.set n _).length
   rw [List.length_modify,List.length_set];exact h.src.1
 . have ha2:(sp.src.modify n fun _=>⟨false,false,0,false⟩)[i]?=some a:=ha
   have hb2:(r.src.set n RSrc.zero)[i]?=some b:=hb
   rw [List.getElem?_set] at hb2
   by_cases hi:n=i
   . subst hi
     rw [if_pos rfl,if_pos hlt] at hb2
     rw [modify_at _ hs] at ha2
     simp only [Option.some.injEq] at ha2 hb2
     subst ha2;subst hb2
     exact ⟨rfl,rfl,fun _=>rfl,fun hh=>by cases hh⟩
   . rw [modify_ne _ hi] at ha2
     rw [if_neg hi] at hb2
     exact h.src.2 i a b ha2 hb2
 . have ht2:(r.src.set n RSrc.zero)[i]?=some t':=ht'
   rw [List.getElem?_set] at ht2 hl
   by_cases hi:n=i
   . subst hi
     rw [if_pos rfl,if_pos hlt] at ht2
     rw [if_pos rfl] at hl
     simp only [Option.some.injEq] at ht2
     subst ht2
     split at hl
     . simp only [Option.some.injEq] at hl
       rw [<- hl];rfl
     . cases hl
   . rw [if_neg hi] at ht2 hl
     exact h.rest i t' l ht2 hl hb'
 . have hs2:(sp.src.modify n fun _=>⟨false,false,0,false⟩)[i]?=some s':=hs'
   rw [List.getElem?_set]
   by_cases hi:n=i
   . subst hi
     rw [modify_at _ hs] at hs2
     simp only [Option.some.injEq] at hs2
     have hn:n < rs.length:=by rw [h.rl,<- h8];exact (List.getElem?_eq_some_iff.1 hs).1
     rw [if_pos rfl,if_pos hn,<- hs2]
     exact ⟨rfl,rfl,rfl⟩
   . rw [modify_ne _ hi] at hs2
     rw [if_neg hi]
     exact h.shut i s' hs2 ho'
theorem close_two (f r:Nat) (c:Cf) (sp:Sp) (rs:List (List UInt8)) (n:Int) (h8:sp.src.length=8) (hc:CfOk c) (hE:sp.E.length<=200000) (hrl:rs.length=8):∃ (x:Int) (sp':Sp) (rs':List (List UInt8)),sp'.E=sp.E/\(rs'.map List.length).sum<=(rs.map List.length).sum /\
 (∀ (w:World) (F:Nat->Prop),FlowOn w f c sp rs F T->Calls Tryz.prog 49 #[.pointer (some ⟨f,0,none⟩),.int .i64 n] w fun e w'=>e=.returned (.int .i64 x)/\FlowOn w' f c sp' rs' (Grown F w) T/\Kept F w w') /\
 ∀ (w:World) (G:Nat->Prop),Ref T2 w r c sp rs G->Calls Tryz.prog 60 #[.pointer (some ⟨r,0,none⟩),.int .i64 n] w fun e w'=>e=.returned (.int .i64 x)/\Ref T2 w' r c sp' rs' (Grown G w)/\Kept G w w':=by
 rcases src_cases c sp n h8 with hn | ⟨m,s,rfl,hs⟩
 . refine ⟨3,sp,rs,rfl,Nat.le_refl _,fun w F h=>(close_out_on f n c sp rs F T w h hn).mono (fun e w' ⟨h1,h2,h3⟩=>⟨h1,h2.up,h3⟩),fun w G h=>(rclose_out r n w hn).mono ?_⟩
   rintro e w' ⟨rfl,rfl⟩
   exact ⟨rfl,h.mono (fun k hk=>.inl hk),Kept.refl _ _⟩
 . cases ho:s.opened with
   | false=>
     refine ⟨4,sp,rs,rfl,Nat.le_refl _,fun w F h=>(close_no_on f m c sp rs F T s w h hs ho).mono (fun e w' ⟨h1,h2,h3⟩=>⟨h1,h2.up,h3⟩),fun w G h=>?_⟩
     obtain ⟨rr,ds,h1,h2,h3⟩:=id h
     obtain ⟨t,ht,hst⟩:=h2.src.at hs
     refine (rclose_no r m rr t w h1.rev.rf ht (hst.op.trans ho)).mono ?_
     rintro e w' ⟨rfl,rfl⟩
     exact ⟨rfl,h.mono (fun k hk=>.inl hk),Kept.refl _ _⟩
   | true=>
     have hm:m < rs.length:=by rw [hrl,<- h8];exact (List.getElem?_eq_some_iff.1 hs).1
     have hsum:=sum_set rs m rs[m] [] (List.getElem?_eq_getElem hm)
     refine ⟨0,(sp.close0 m).line c,rs.set m [],rfl,by simp only [List.length_nil] at hsum;omega,fun w F h=>close_on f m c sp rs F T s w h hs ho (by omega),fun w G h=>?_⟩
     obtain ⟨rr,ds,h1,h2,h3,hpd⟩:=h
     obtain ⟨t,ht,hst⟩:=h2.src.at hs
     refine rclose_of r m rr t w h1.rev.rf ht (hst.op.trans ho) _ (fun W a1 a2=>?_)
     obtain ⟨b1,-,-⟩:=h1.cells a1 rfl rfl a2
     exact lines_then (sp':=sp.close0 m) hc h1 b1 rfl (a2.mono (fun k _ e=>.inl e)) (fun k hk=>.inl hk) (h2.closed m s hs h8) (hpd.out h3 m ⟨false,false,0,false⟩ rfl _) hE
theorem feed_two (f r:Nat) (c:Cf) (sp:Sp) (rs:List (List UInt8)) (n:Int) (b:ByteArray) (h8:sp.src.length=8) (hc:CfOk c) (hE:heft sp rs+b.size<=5000000) (hrl:rs.length=8):∃ (x:Int) (sp':Sp) (rs':List (List UInt8)),heft sp' rs'<=heft sp rs+b.size /\
 (∀ (w:World) (F:Nat->Prop) (bv:Value),FlowOn w f c sp rs F T->Row w 5 1 bv (b.data.toList.map byteV)->Calls Tryz.prog 20 #[.pointer (some ⟨f,0,none⟩),.int .i64 n,bv] w fun e w'=>e=.returned (.int .i64 x)/\FlowOn w' f c sp' rs' (Grown F w) T/\Kept F w w') /\
 ∀ (w:World) (G:Nat->Prop),Ref T2 w r c sp rs G->Calls Tryz.prog 57 #[.pointer (some ⟨r,0,none⟩),.int .i64 n,.string b] w fun e w'=>e=.returned (.int .i64 x)/\Ref T2 w' r c sp' rs' (Grown G w)/\Kept G w w':=by
 rcases src_cases c sp n h8 with hn | ⟨m,s,rfl,hs⟩
 . refine ⟨3,sp,rs,Nat.le_add_right _ _,fun w F bv h _=>(feed_out_on f n c sp rs F T bv w h hn).mono (fun e w' ⟨h1,h2,h3⟩=>⟨h1,h2.up,h3⟩),fun w G h=>(rfeed_out r n b w hn).mono ?_⟩
   rintro e w' ⟨rfl,rfl⟩
   exact ⟨rfl,h.mono (fun k hk=>.inl hk),Kept.refl _ _⟩
 . cases ho:s.opened with
   | false=>
     refine ⟨4,sp,rs,Nat.le_add_right _ _,fun w F bv h _=>(feed_no_on f m c sp rs F T bv s w h hs ho).mono (fun e w' ⟨h1,h2,h3⟩=>⟨h1,h2.up,h3⟩),fun w G h=>?_⟩
     obtain ⟨rr,ds,h1,h2,h3⟩:=id h
     obtain ⟨t,ht,hst⟩:=h2.src.at hs
     refine (rfeed_no r m b rr t w h1.rev.rf ht (hst.op.trans ho)).mono ?_
     rintro e w' ⟨rfl,rfl⟩
     exact ⟨rfl,h.mono (fun k hk=>.inl hk),Kept.refl _ _⟩
   | true=>
     cases hb:s.broken with
     | true=>
       refine ⟨0,sp,rs,Nat.le_add_right _ _,fun w F bv h _=>(feed_broken_on f m c sp rs F T bv s w h hs ho hb).mono (fun e w' ⟨h1,h2,h3⟩=>⟨h1,h2.up,h3⟩),fun w G h=>?_⟩
       obtain ⟨rr,ds,h1,h2,h3⟩:=id h
       obtain ⟨t,ht,hst⟩:=h2.src.at hs
       refine (rfeed_broken r m b rr t w h1.rev.rf ht (hst.op.trans ho) (hst.br.trans hb)).mono ?_
       rintro e w' ⟨rfl,rfl⟩
       exact ⟨rfl,h.mono (fun k hk=>.inl hk),Kept.refl _ _⟩
     | false=>
       have hm:m < rs.length:=by rw [hrl,<- h8];exact (List.getElem?_eq_some_iff.1 hs).1
       have hsum:=sum_set rs m rs[m] (feedF c m ((rs[m]++b.data.toList).length+1) sp (rs[m]++b.data.toList)).2 (List.getElem?_eq_getElem hm)
       have hheft:=feedF_heft c m ((rs[m]++b.data.toList).length+1) sp (rs[m]++b.data.toList)
       have hbl:=keyLen b
       have happ:(rs[m]++b.data.toList).length=rs[m].length+b.data.toList.length:=List.length_append
       unfold heft at hE ⊢
       generalize hR:feedF c m ((rs[m]++b.data.toList).length+1) sp (rs[m]++b.data.toList)=R at *
       have h0:=sum_set rs m rs[m] [] (List.getElem?_eq_getElem hm)
       simp only [List.length_nil] at h0
       refine ⟨0,R.1,rs.set m R.2,by omega,fun w F bv h hrow=>by rw [<- hR];exact feed_on f m c sp rs F T bv b.data.toList rs[m] s w h hs ho hb (List.getElem?_eq_getElem hm) hrow (by omega),fun w G h=>?_⟩
       rw [<- hR]
       exact rfeed_ref w r m c sp rs G b s hc h hs ho hb rs[m] (List.getElem?_eq_getElem hm) (by rw [List.length_append];omega) (by omega)
theorem ref_new (w:World) (g:Nat) (c:Cf) (h:w.heap[g]?=some (.cells (RCells.new c.size c.slide c.late c.keys).cells.toArray 140)):Ref (none,0) w g c Sp.new (List.replicate 8 []) (fun k=>k=g):=by
 refine ⟨RCells.new c.size c.slide c.late c.keys,[],⟨⟨⟨h,rfl⟩,Row.nil _ _ _⟩,⟨Row.nil _ _ _,fun x hx=>by simp at hx,fun k hk=>by simp [RCells.new,Value.ownBlock] at hk,fun _=>rfl⟩,rfl,fun k hk=>by simp [RCells.new,Value.ownBlock] at hk,fun k hk=>by simp [RCells.new,Value.ownBlock] at hk,fun x hx=>by simp at hx⟩,⟨rfl,rfl,rfl,rfl,rfl,rfl,rfl,⟨rfl,fun i a b ha hb=>?_⟩,rfl,fun i t l ht hl _=>?_,Nat.zero_le _,fun e he=>by simp [Sp.new] at he,fun i s hs _=>?_⟩,rfl,Pend.new c⟩
 . have ha2:(List.replicate 8 (⟨false,false,0,false⟩:SrcS))[i]?=some a:=ha
   have hb2:(List.replicate 8 RSrc.zero)[i]?=some b:=hb
   rw [List.getElem?_replicate] at ha2 hb2
   split at ha2
   . rename_i hi
     rw [if_pos hi] at hb2
     cases ha2;cases hb2
     exact ⟨rfl,rfl,fun _=>rfl,fun hh=>by cases hh⟩
   . cases ha2
 . have ht2:(List.replicate 8 RSrc.zero)[i]?=some t:=ht
   rw [List.getElem?_replicate] at ht2 hl
   split at ht2
   . rename_i hi
     rw [if_pos hi] at hl
     cases ht2;cases hl;rfl
   . cases ht2
 . have hs2:(List.replicate 8 (⟨false,false,0,false⟩:SrcS))[i]?=some s:=hs
   rw [List.getElem?_replicate] at hs2 ⊢
   split at hs2
   . rename_i hi
     rw [if_pos hi]
     cases hs2;exact ⟨rfl,rfl,rfl⟩
   . cases hs2
end Go.Proofs.YtcfngdnmpogaoaaGreat
