import Derived.Test.YtcfngdnmpogaoaaGreatTkU20
import Derived.Test.YtcfngdnmpogaoaaGreatTkU17
import Derived.Test.YtcfngdnmpogaoaaGreatTkU18
import Derived.Test.YtcfngdnmpogaoaaGreatTkU16
namespace Go.Proofs.YtcfngdnmpogaoaaGreat
open Go.RowKit Go.MuLone
theorem FlowOn.touch {w:World} {g:Nat} {c:Cf} {sp:Sp} {rs:List (List UInt8)} {F:Nat->Prop} {T:Option Int} (h:FlowOn w g c sp rs F T) :
 ∃ r,SF w g r/\r.lk=0/\r.n=sp.n/\r.lt=sp.lt/\r.li=sp.li/\r.src.map srcS=sp.src/\F g/\∀ w',SF w' g r->Kept (fun k=>k=g) w w'->FlowOn w' g c sp rs F T:=by
 obtain ⟨us,⟨st,⟨r,gs,es,h3,rfl,hlk,rfl,h5⟩,hm,hfit,h4,h6⟩,h2⟩:=h
 refine ⟨r,h3.sf,hlk,congrArg Sp.n h4,congrArg Sp.lt h4,congrArg Sp.li h4,congrArg Sp.src h4,h5 g (.inl rfl),fun w' hs hk=>?_⟩
 exact ⟨_,⟨_,⟨r,gs,es,h3.turn hk hs rfl rfl,rfl,hlk,rfl,h5⟩,hm,hfit,h4,h6⟩,h2.step (h3.bytes8 (hk.mono (fun k _ e=>.inl e))) (fun k hk=>hk)⟩
theorem FlowOn.srcLen {w:World} {g:Nat} {c:Cf} {sp:Sp} {rs:List (List UInt8)} {F:Nat->Prop} {T:Option Int} (h:FlowOn w g c sp rs F T):sp.src.length=8/\rs.length=8:=by
 obtain ⟨us,h1,h2⟩:=h
 exact ⟨h1.srcLen.1,h2.rl⟩
theorem srcAtS {l:List SSrc} {m:List SrcS} (h:l.map srcS=m) {n:Nat} {s:SrcS} (hs:m[n]?=some s):∃ x,l[n]?=some x/\srcS x=s:=by
 rw [<- h,List.getElem?_map] at hs
 cases hx:l[n]? with
 | none=>rw [hx] at hs;cases hs
 | some x=>rw [hx] at hs;exact ⟨x,rfl,by simpa using hs⟩
theorem feed_out_on (g:Nat) (n:Int) (c:Cf) (sp:Sp) (rs:List (List UInt8)) (F:Nat->Prop) (T:Option Int) (bv:Value) (w:World) (h:FlowOn w g c sp rs F T) (hn:¬ (0<=n/\n < 8)) :
 Calls Tryz.prog 20 #[.pointer (some ⟨g,0,none⟩),.int .i64 n,bv] w fun e w'=>e=.returned (.int .i64 3)/\FlowOn w' g c sp rs F T/\Kept F w w':=by
 obtain ⟨r,h1,h2,-,-,-,-,hF,h3⟩:=h.touch
 refine (feed_refused g n r bv 3 w h1 h2 (.inl rfl) (fun W _=>openSource_out g n W hn)).mono ?_
 rintro e w' ⟨rfl,h4,h5⟩
 exact ⟨rfl,h3 w' h4 h5,h5.mono (fun k _ e=>by rw [e];exact hF)⟩
theorem feed_no_on (g n:Nat) (c:Cf) (sp:Sp) (rs:List (List UInt8)) (F:Nat->Prop) (T:Option Int) (bv:Value) (s:SrcS) (w:World) (h:FlowOn w g c sp rs F T) (hs:sp.src[n]?=some s) (ho:s.opened=false) :
 Calls Tryz.prog 20 #[.pointer (some ⟨g,0,none⟩),.int .i64 n,bv] w fun e w'=>e=.returned (.int .i64 4)/\FlowOn w' g c sp rs F T/\Kept F w w':=by
 obtain ⟨r,h1,h2,-,-,-,hm,hF,h3⟩:=h.touch
 obtain ⟨x,hx,rfl⟩:=srcAtS hm hs
 refine (feed_refused g n r bv 4 w h1 h2 (.inr rfl) (fun W hW=>openSource_no g n (r.lock 1) x W hW hx ho)).mono ?_
 rintro e w' ⟨rfl,h4,h5⟩
 exact ⟨rfl,h3 w' h4 h5,h5.mono (fun k _ e=>by rw [e];exact hF)⟩
theorem feed_broken_on (g n:Nat) (c:Cf) (sp:Sp) (rs:List (List UInt8)) (F:Nat->Prop) (T:Option Int) (bv:Value) (s:SrcS) (w:World) (h:FlowOn w g c sp rs F T) (hs:sp.src[n]?=some s) (ho:s.opened=true) (hb:s.broken=true) :
 Calls Tryz.prog 20 #[.pointer (some ⟨g,0,none⟩),.int .i64 n,bv] w fun e w'=>e=.returned (.int .i64 0)/\FlowOn w' g c sp rs F T/\Kept F w w':=by
 obtain ⟨r,h1,h2,-,-,-,hm,hF,h3⟩:=h.touch
 obtain ⟨x,hx,rfl⟩:=srcAtS hm hs
 refine (feed_of g n r x bv w h1 h2 hx ho (fun W=>SF W g (r.lock 1)/\Kept (fun k=>k=g) w W) (fun W hW=>⟨hW.1.lockAt rfl,hW.1.frozen _⟩) (fun W hW kW=>?_)).mono ?_
 . refine (read_broken g (6+n*5) bv W (by rw [<- (show x.broken=true from hb)];exact hW.cell (SCells.srcAt _ n 1 x hx (by omega)))).mono ?_
   rintro e w' ⟨rfl,rfl⟩
   exact ⟨rfl,hW,kW⟩
 . rintro e w' ⟨rfl,W,⟨h4,h5⟩,rfl⟩
   have k6:Kept (fun k=>k=g) w (W.setCell ⟨g,0,none⟩ (.int .i32 0)):=h5.setCell ⟨g,0,none⟩ _ (fun _=>rfl)
   have h7:=h4.putLock 0
   rw [r.relock h2] at h7
   exact ⟨rfl,h3 _ h7 k6,k6.mono (fun k _ e=>by rw [e];exact hF)⟩
theorem close_out_on (g:Nat) (n:Int) (c:Cf) (sp:Sp) (rs:List (List UInt8)) (F:Nat->Prop) (T:Option Int) (w:World) (h:FlowOn w g c sp rs F T) (hn:¬ (0<=n/\n < 8)) :
 Calls Tryz.prog 49 #[.pointer (some ⟨g,0,none⟩),.int .i64 n] w fun e w'=>e=.returned (.int .i64 3)/\FlowOn w' g c sp rs F T/\Kept F w w':=by
 obtain ⟨r,h1,h2,-,-,-,-,hF,h3⟩:=h.touch
 refine (close_refused g n r 3 w h1 h2 (.inl rfl) (fun W _=>openSource_out g n W hn)).mono ?_
 rintro e w' ⟨rfl,h4,h5⟩
 exact ⟨rfl,h3 w' h4 h5,h5.mono (fun k _ e=>by rw [e];exact hF)⟩
theorem close_no_on (g n:Nat) (c:Cf) (sp:Sp) (rs:List (List UInt8)) (F:Nat->Prop) (T:Option Int) (s:SrcS) (w:World) (h:FlowOn w g c sp rs F T) (hs:sp.src[n]?=some s) (ho:s.opened=false) :
 Calls Tryz.prog 49 #[.pointer (some ⟨g,0,none⟩),.int .i64 n] w fun e w'=>e=.returned (.int .i64 4)/\FlowOn w' g c sp rs F T/\Kept F w w':=by
 obtain ⟨r,h1,h2,-,-,-,hm,hF,h3⟩:=h.touch
 obtain ⟨x,hx,rfl⟩:=srcAtS hm hs
 refine (close_refused g n r 4 w h1 h2 (.inr rfl) (fun W hW=>openSource_no g n (r.lock 1) x W hW hx ho)).mono ?_
 rintro e w' ⟨rfl,h4,h5⟩
 exact ⟨rfl,h3 w' h4 h5,h5.mono (fun k _ e=>by rw [e];exact hF)⟩
theorem open_out_on (g:Nat) (n:Int) (c:Cf) (sp:Sp) (rs:List (List UInt8)) (F:Nat->Prop) (T:Option Int) (w:World) (h:FlowOn w g c sp rs F T) (hn:¬ (0<=n/\n < 8)) :
 Calls Tryz.prog 22 #[.pointer (some ⟨g,0,none⟩),.int .i64 n] w fun e w'=>e=.returned (.int .i64 3)/\FlowOn w' g c sp rs F T/\Kept F w w':=by
 obtain ⟨r,h1,h2,-,-,-,-,hF,h3⟩:=h.touch
 refine (open_out g n r w h1 h2 hn).mono ?_
 rintro e w' ⟨rfl,h4,h5⟩
 exact ⟨rfl,h3 w' h4 h5,h5.mono (fun k _ e=>by rw [e];exact hF)⟩
theorem open_no_on (g n:Nat) (c:Cf) (sp:Sp) (rs:List (List UInt8)) (F:Nat->Prop) (T:Option Int) (s:SrcS) (w:World) (h:FlowOn w g c sp rs F T) (hs:sp.src[n]?=some s) (ho:s.opened=true) :
 Calls Tryz.prog 22 #[.pointer (some ⟨g,0,none⟩),.int .i64 n] w fun e w'=>e=.returned (.int .i64 4)/\FlowOn w' g c sp rs F T/\Kept F w w':=by
 obtain ⟨r,h1,h2,-,-,-,hm,hF,h3⟩:=h.touch
 obtain ⟨x,hx,rfl⟩:=srcAtS hm hs
 refine (open_no g n r x w h1 h2 hx ho).mono ?_
 rintro e w' ⟨rfl,h4,h5⟩
 exact ⟨rfl,h3 w' h4 h5,h5.mono (fun k _ e=>by rw [e];exact hF)⟩
theorem line_on (g:Nat) (c:Cf) (sp:Sp) (rs:List (List UInt8)) (F:Nat->Prop) (T:Option Int) (w:World) (h:FlowOn w g c sp rs F T) :
 Calls Tryz.prog 29 #[.pointer (some ⟨g,0,none⟩)] w fun e w'=>e=.returned (.tuple #[.int .i64 sp.lt,.bool sp.li])/\FlowOn w' g c sp rs F T/\Kept F w w':=by
 obtain ⟨r,h1,h2,-,e1,e2,-,hF,h3⟩:=h.touch
 rw [<- e1,<- e2]
 refine (line_any g r w h1 h2).mono ?_
 rintro e w' ⟨rfl,h4,h5⟩
 exact ⟨rfl,h3 w' h4 h5,h5.mono (fun k _ e=>by rw [e];exact hF)⟩
theorem counts_on (g:Nat) (c:Cf) (sp:Sp) (rs:List (List UInt8)) (F:Nat->Prop) (T:Option Int) (w:World) (h:FlowOn w g c sp rs F T) :
 Calls Tryz.prog 27 #[.pointer (some ⟨g,0,none⟩)] w fun e w'=>e=.returned (countsV sp.n)/\FlowOn w' g c sp rs F T/\Kept F w w':=by
 obtain ⟨r,h1,h2,e1,-,-,-,hF,h3⟩:=h.touch
 rw [<- e1]
 refine (counts_any g r w h1 h2).mono ?_
 rintro e w' ⟨rfl,h4,h5⟩
 exact ⟨rfl,h3 w' h4 h5,h5.mono (fun k _ e=>by rw [e];exact hF)⟩
def Sp.open (s:Sp) (n:Nat):Sp:={ s with src:=s.src.modify n (fun x=>⟨true,x.broken,x.time,x.is⟩) }
def Sp.close0 (s:Sp) (n:Nat):Sp:={ s with src:=s.src.modify n (fun _=>⟨false,false,0,false⟩) }
theorem modify_fits {l:List SrcS} (h:SrcFits l) (n:Nat) (f:SrcS->SrcS) (hf:∀ s ∈ l,-2305843009213693952<=(f s).time/\(f s).time<=2305843009213693952):SrcFits (l.modify n f):=fun s hs=>by
 obtain ⟨i,hi,rfl⟩:=List.mem_iff_getElem.1 hs
 rw [List.getElem_modify]
 have hi':i < l.length:=by simpa using hi
 split
 . exact hf _ (by simp)
 . exact h _ (by simp)
theorem open_on (g n:Nat) (c:Cf) (sp:Sp) (rs:List (List UInt8)) (F:Nat->Prop) (T:Option Int) (s:SrcS) (w:World) (h:FlowOn w g c sp rs F T) (hs:sp.src[n]?=some s) (ho:s.opened=false) :
 Calls Tryz.prog 22 #[.pointer (some ⟨g,0,none⟩),.int .i64 n] w fun e w'=>e=.returned (.int .i64 0)/\FlowOn w' g c (sp.open n) rs F T/\Kept F w w':=by
 obtain ⟨us,⟨st,⟨r,gs,es,h3,rfl,hlk,rfl,h5⟩,hm,hfit,h4,rfl⟩,h2⟩:=h
 have hsrc:=congrArg Sp.src h4
 obtain ⟨x,hx,rfl⟩:=srcAtS hsrc hs
 refine (open_yes g n r x w h3.sf hlk hx ho).mono ?_
 rintro e w' ⟨rfl,h6,h7⟩
 have hun:(r.src.set n ⟨true,x.broken,x.unread,x.time,x.is⟩).map SSrc.unread=r.src.map SSrc.unread:=by
  refine List.ext_getElem? (fun i=>?_)
  rw [List.getElem?_map,List.getElem?_set,List.getElem?_map]
  by_cases hi:n=i
  . subst hi
    have hl:n < r.src.length:=(List.getElem?_eq_some_iff.1 hx).1
    rw [if_pos rfl,if_pos hl,hx];rfl
  . simp [hi]
 have kb:=h3.bytes8 (h7.mono (fun k _ e=>.inl e))
 refine ⟨rfl,⟨_,⟨stOf (r.setSrc n ⟨true,x.broken,x.unread,x.time,x.is⟩) gs es,⟨_,gs,es,h3.turn h7 h6 rfl rfl,rfl,hlk,hun,fun k hk=>h5 k ?_⟩,hm.congr rfl rfl rfl rfl rfl rfl rfl rfl,modify_fits hfit n _ (fun y hy=>hfit y hy),?_,rfl⟩,h2.step kb (fun k hk=>hk)⟩,h7.mono (fun k _ e=>by rw [e];exact h5 g (.inl rfl))⟩
 . rcases hk with hj | hj | hj | hj
   . exact .inl hj
   . exact .inr (.inl hj)
   . exact .inr (.inr (.inl hj))
   . exact .inr (.inr (.inr hj))
 . unfold Sp.open
   rw [<- h4]
   unfold spOf stOf
   simp only [Sp.mk.injEq,true_and]
   first | exact ⟨src_set r.src n x _ _ hx rfl,rfl,rfl,rfl⟩ | exact src_set r.src n x _ _ hx rfl
theorem close_on (g n:Nat) (c:Cf) (sp:Sp) (rs:List (List UInt8)) (F:Nat->Prop) (T:Option Int) (s:SrcS) (w:World) (h:FlowOn w g c sp rs F T) (hs:sp.src[n]?=some s) (ho:s.opened=true) (hE:sp.E.length<=100000000) :
 Calls Tryz.prog 49 #[.pointer (some ⟨g,0,none⟩),.int .i64 n] w fun e w'=>e=.returned (.int .i64 0)/\FlowOn w' g c ((sp.close0 n).line c) (rs.set n []) (Grown F w) T/\Kept F w w':=by
 obtain ⟨us,⟨st,⟨r,gs,es,h3,rfl,hlk,rfl,h5⟩,hm,hfit,h4,rfl⟩,h2⟩:=h
 have hsrc:=congrArg Sp.src h4
 obtain ⟨x,hx,rfl⟩:=srcAtS hsrc hs
 have hFg:=h5 g (.inl rfl)
 refine (close_of g n r x w h3.sf hlk hx ho (fun W=>FlowSp W g 1 (cfOf (stOf r gs es)) ((sp.close0 n).line (cfOf (stOf r gs es))) ((r.src.map SSrc.unread).set n (.slice none 0 0)) (Grown F w) T/\Kept F w W/\Bytes8 w W) (fun W hW=>hW.1.lockAt) (fun W h6 k6=>?_)).mono ?_
 . have hk6:Kept (flowFoot g r gs es) w W:=k6.mono (fun k _ e=>.inl e)
   have hsp:spOf (stOf ((r.lock 1).setSrc n SSrc.zero) gs es) sp.E=sp.close0 n:=by
    unfold Sp.close0
    rw [<- h4]
    unfold spOf stOf
    simp only [Sp.mk.injEq,true_and]
    exact ⟨src_set r.src n x _ _ hx rfl,rfl,rfl,rfl⟩
   refine (moveLine_sp g 1 (cfOf (stOf r gs es)) (sp.close0 n) ((r.src.map SSrc.unread).set n (.slice none 0 0)) F T W ⟨stOf ((r.lock 1).setSrc n SSrc.zero) gs es,⟨_,gs,es,h3.turn k6 h6 rfl rfl,rfl,rfl,set_map _ _ _ _,fun k hk=>h5 k ?_⟩,hm.congr rfl rfl rfl rfl rfl rfl rfl rfl,modify_fits hfit n _ (fun _ _=>by decide),hsp,rfl⟩ hE).mono ?_
   . rcases hk with hk | hk | hk | hk
     . exact .inl hk
     . exact .inr (.inl hk)
     . exact .inr (.inr (.inl hk))
     . exact .inr (.inr (.inr hk))
   . rintro e w' ⟨rfl,h7,h8,h9⟩
     refine ⟨rfl,h7.mono (fun k hk=>?_),(hk6.mono (fun k _ e=>h5 k e)).trans h8,(h3.bytes8 hk6).trans h9⟩
     rcases hk with hk | hk
     . exact .inl hk
     . exact .inr (by have:=k6.size;omega)
 . rintro e w' ⟨rfl,W,⟨a1,a2,a3⟩,rfl⟩
   obtain ⟨b1,b2⟩:=a1.lock 0
   have kk:Kept F W (W.setCell ⟨g,0,none⟩ (.int .i32 0)):=(Kept.refl _ W).setCell ⟨g,_,none⟩ _ (fun _=>hFg)
   have hb8:Bytes8 W (W.setCell ⟨g,0,none⟩ (.int .i32 0)):=by
    obtain ⟨st',⟨r',gs',es',z1,_⟩,_⟩:=a1
    exact z1.bytes8 ((Kept.refl _ W).setCell ⟨g,_,none⟩ _ (fun _=>.inl rfl))
   exact ⟨rfl,⟨_,b1,(h2.step (a3.trans hb8) (fun k hk=>.inl hk)).set n _ [] (Row.nil _ _ _) (fun k hk=>by simp [Value.ownBlock] at hk) (by simp)⟩,a2.trans kk⟩
def Sp.new:Sp:=⟨List.replicate 8 ⟨false,false,0,false⟩,[],0,false,⟨0,0,0,0,0,0⟩⟩
theorem new_on (size slide late keys:Int) (w:World) (hc:isConf size slide late keys) :
 Calls Tryz.prog 41 #[confV size slide late keys] w fun e w'=>∃ g,w.heap.size<=g/\e=.returned (.tuple #[.pointer (some ⟨g,0,none⟩),.int .i64 0])/\FlowOn w' g ⟨size,slide,late,keys⟩ Sp.new (List.replicate 8 []) (fun k=>k=g) none/\Below w.heap.size w w':=by
 refine (new_yes size slide late keys w hc).mono ?_
 rintro e w' ⟨g,h1,h2,h3,h4⟩
 refine ⟨g,h1,h2,⟨List.replicate 8 (.slice none 0 0),⟨stOf (SCells.new size slide late keys) [] [],⟨_,[],[],⟨h3,Row.nil _ _ _,Row.nil _ _ _,fun k hk=>by simp [SCells.new,Value.ownBlock] at hk,fun x hx=>by simp at hx,List.Pairwise.nil⟩,rfl,rfl,rfl,fun k hk=>?_⟩,?_,?_,rfl,rfl⟩,?_⟩,h4⟩
 . rcases hk with hk | hk | hk | ⟨x,hx,hk⟩
   . exact hk
   . simp [SCells.new,Value.ownBlock] at hk
   . simp [SCells.new,Value.ownBlock] at hk
   . simp at hx
 . obtain ⟨c1,c2,c3,c4,c5,c6,c7,c8⟩:=hc
   exact ⟨⟨c1,c2,c3,c5,c6,c7,c8⟩,List.Pairwise.nil,(by show (0:Int)<=keys;omega),fun r hr=>(by simp [stOf,rsOf] at hr),List.Perm.nil,List.Pairwise.nil,fun r hr=>(by simp [stOf,rsOf] at hr),fun r hr=>(by simp [stOf,rsOf] at hr),fun t ht=>(by cases ht),fun e he=>(by simp [Sp.new] at he)⟩
 . intro s hs
   simp only [Sp.new,List.mem_replicate] at hs
   rw [hs.2];decide
 . refine ⟨rfl,rfl,fun i v l hv hl=>?_⟩
   rw [List.getElem?_replicate] at hv hl
   split at hv
   . cases hv
     split at hl
     . cases hl;exact ⟨Row.nil _ _ _,fun k hk=>by simp [Value.ownBlock] at hk,by simp⟩
     . rename_i a b;exact absurd a b
   . cases hv
end Go.Proofs.YtcfngdnmpogaoaaGreat
namespace Go.Proofs.YtcfngdnmpogaoaaGreat
open Go.RowKit
theorem filter_two {α:Type} (p q r:α->Bool) (l:List α) (h1:∀ x,p x=true->r x=true) (h2:∀ x,q x=true->r x=true) (h3:∀ x,p x=true->q x=false):(l.filter p).length+(l.filter q).length<=(l.filter r).length:=by
 induction l with
 | nil=>exact Nat.le_refl _
 | cons a l ih=>
   rw [List.filter_cons,List.filter_cons,List.filter_cons]
   cases hp:p a with
   | true=>
     rw [h1 a hp,h3 a hp]
     simp only [if_true,Bool.false_eq_true,if_false,List.length_cons];omega
   | false=>
     cases hq:q a with
     | true=>
       rw [h2 a hq]
       simp only [if_true,Bool.false_eq_true,if_false,List.length_cons];omega
     | false=>
       simp only [Bool.false_eq_true,if_false]
       split
       . rw [List.length_cons];omega
       . exact ih
def endB (size slide lt:Int) (li:Bool) (t:Int) (j:Nat):Bool:=li && decide (startAt slide t j+size<=lt)
def cntW (size slide lt:Int) (li:Bool) (e:Ev):Nat:=((List.range (winN size slide e.t)).filter (endB size slide lt li e.t)).length
def cntAll (size slide lt:Int) (li:Bool) (E:List Ev):Nat:=(E.map (cntW size slide lt li)).sum
def finN (size slide was line:Int) (had:Bool) (e:Ev) (n:Nat):Nat:=((List.range n).filter (fun j=>finB size was line had (startAt slide e.t j))).length
theorem evFin_cnt (size slide was line:Int) (had:Bool) (E:List Ev) (e:Ev) (n:Nat) (ws:List Win):(evFin size slide was line had E e n ws).length<=ws.length+finN size slide was line had e n:=by
 induction n with
 | zero=>exact Nat.le_refl _
 | succ n ih=>
   unfold finN at *
   rw [evFin_succ,List.range_succ,List.filter_append,List.length_append]
   cases hb:finB size was line had (startAt slide e.t n) with
   | true=>
     have:=place_len e.key (startAt slide e.t n) (winF e.key (startAt slide e.t n) size E) (evFin size slide was line had E e n ws)
     simp only [if_true,List.filter_cons,hb,List.filter_nil,List.length_cons,List.length_nil]
     omega
   | false=>
     simp only [Bool.false_eq_true,if_false,List.filter_cons,hb,List.filter_nil,List.length_nil]
     omega
theorem finAll_cnt (size slide was line:Int) (had:Bool) (E es:List Ev):(finAll size slide was line had E es).length<=(es.map fun e=>finN size slide was line had e (winN size slide e.t)).sum:=by
 induction es using snoc_ind with
 | nil=>simp [finAll]
 | snoc es e ih=>
   have e1:finAll size slide was line had E (es++[e])=evFin size slide was line had E e (winN size slide e.t) (finAll size slide was line had E es):=by
    unfold finAll;rw [List.foldl_append];rfl
   rw [e1,List.map_append,List.sum_append]
   have:=evFin_cnt size slide was line had E e (winN size slide e.t) (finAll size slide was line had E es)
   simp only [List.map_cons,List.map_nil,List.sum_cons,List.sum_nil]
   omega
theorem cnt_move (size slide was line:Int) (had:Bool) (h:had=true->was<=line) (e:Ev):cntW size slide was had e+finN size slide was line had e (winN size slide e.t)<=cntW size slide line true e:=by
 refine filter_two _ _ _ _ (fun j hj=>?_) (fun j hj=>?_) (fun j hj=>?_)
 . unfold endB at *
   simp only [Bool.and_eq_true,decide_eq_true_eq] at hj ⊢
   have:=h hj.1
   exact ⟨trivial,by omega⟩
 . unfold endB finB at *
   simp only [Bool.and_eq_true,decide_eq_true_eq] at hj ⊢
   exact ⟨trivial,hj.1⟩
 . unfold endB finB at *
   simp only [Bool.and_eq_true,decide_eq_true_eq] at hj
   rw [hj.1]
   have:¬ was < startAt slide e.t j+size:=by omega
   simp [this]
theorem cntAll_move (size slide was line:Int) (had:Bool) (h:had=true->was<=line) (E:List Ev):cntAll size slide was had E+(E.map fun e=>finN size slide was line had e (winN size slide e.t)).sum<=cntAll size slide line true E:=by
 unfold cntAll
 induction E with
 | nil=>simp
 | cons e E ih=>
   have:=cnt_move size slide was line had h e
   simp only [List.map_cons,List.sum_cons];omega
theorem cntAll_le (size slide lt:Int) (li:Bool) (E:List Ev) (h1:1<=slide) (h2:size<=4096*slide):cntAll size slide lt li E<=4097*E.length:=by
 unfold cntAll
 induction E with
 | nil=>simp
 | cons e E ih=>
   have h3:cntW size slide lt li e<=winN size slide e.t:=by
    unfold cntW
    have:=List.length_filter_le (endB size slide lt li e.t) (List.range (winN size slide e.t))
    rw [List.length_range] at this;exact this
   have:=winN_le size slide e.t h1 h2
   simp only [List.map_cons,List.sum_cons,List.length_cons];omega
theorem cntAll_snoc (size slide lt:Int) (li:Bool) (E:List Ev) (e:Ev):cntAll size slide lt li E<=cntAll size slide lt li (E++[e]):=by
 unfold cntAll
 rw [List.map_append,List.sum_append];omega
structure RefRel (c:Cf) (sp:Sp) (rs:List (List UInt8)) (r:RCells) (ds:Nat):Prop where
 size:r.size=c.size
 slide:r.slide=c.slide
 late:r.late=c.late
 keys:r.keys=c.keys
 line:r.line=sp.lt
 lined:r.lined=sp.li
 n:r.n=sp.n
 src:SrcRels c.late sp.src r.src
 rl:rs.length=8
 rest:∀ (i:Nat) t l,r.src[i]?=some t->rs[i]?=some l->t.broken=false->t.rest.data.toList=l
 done:ds<=cntAll c.size c.slide sp.lt sp.li sp.E
 ok:∀ e ∈ sp.E,evOk e
 shut:∀ (i:Nat) s,sp.src[i]?=some s->s.opened=false->s.broken=false/\s.is=false/\rs[i]?=some []
theorem line_line (late:Int) (src:List SrcS) (lt:Int) (li:Bool):lineF late src (lineF late src lt li).1 (lineF late src lt li).2=lineF late src lt li:=by
 unfold lineF
 by_cases h:(leastS src).2=true
 . simp only [h,if_true]
   by_cases h2:li=false\/lt < (leastS src).1 - late
   . rw [if_pos h2,if_neg (by rintro (hh | hh);(cases hh);omega)]
   . rw [if_neg h2,if_neg (fun hh=>by
      rcases hh with hh | hh
      . cases hh
      . exact h2 (.inr hh))]
 . rw [if_neg h,if_neg h]
theorem Sp.line_line (c:Cf) (s:Sp):(s.line c).line c=s.line c:=by
 have:=Proofs.YtcfngdnmpogaoaaGreat.line_line c.late s.src s.lt s.li
 unfold Sp.line
 simp only [this]
theorem modify_at {α:Type} {l:List α} {n:Nat} {s:α} (f:α->α) (hs:l[n]?=some s):(l.modify n f)[n]?=some (f s):=by rw [List.getElem?_modify,hs];simp
theorem modify_ne {α:Type} {l:List α} {n i:Nat} (f:α->α) (h:¬ n=i):(l.modify n f)[i]?=l[i]?:=by rw [List.getElem?_modify];simp [h]
theorem SrcRels.raise {late:Int} {ss:List SrcS} {ts:List RSrc} (h:SrcRels late ss ts) (n:Nat) (s:SrcS) (t:RSrc) (hs:ss[n]?=some s) (ht:ts[n]?=some t) (ho:s.opened=true) (hb:s.broken=false) (x:Int):SrcRels late (ss.modify n (raisedS x)) (ts.set n (rRaise (x - late) t)):=by
 refine ⟨by rw [List.length_modify,List.length_set];exact h.1,fun i a b ha hbb=>?_⟩
 rw [List.getElem?_set] at hbb
 by_cases hi:n=i
 . subst hi
   have hl:n < ts.length:=(List.getElem?_eq_some_iff.1 ht).1
   rw [if_pos rfl,if_pos hl] at hbb
   rw [modify_at _ hs] at ha
   simp only [Option.some.injEq] at ha hbb
   subst ha;subst hbb
   have hr:=h.2 n s t hs ht
   obtain ⟨r1,r2⟩:=hr.re ho hb
   have hc:(t.reached=false\/t.reach < x - late) ↔ (s.is=false\/s.time < x):=by
    rw [r1]
    cases hi:s.is with
    | false=>simp
    | true=>rw [r2 hi];simp
   unfold raisedS rRaise
   by_cases hy:s.is=false\/s.time < x
   . rw [if_pos hy,if_pos (hc.2 hy)]
     exact ⟨hr.op,hr.br,fun hh=>by rcases hh with hh | hh;(simp only [ho] at hh;cases hh);(simp only [hb] at hh;cases hh),fun _ _=>⟨rfl,fun _=>rfl⟩⟩
   . rw [if_neg hy,if_neg (fun hh=>hy (hc.1 hh))]
     exact hr
 . rw [modify_ne _ hi] at ha
   rw [if_neg hi] at hbb
   exact h.2 i a b ha hbb
def heft (sp:Sp) (rs:List (List UInt8)):Nat:=26*sp.E.length+(rs.map List.length).sum
theorem sum_set (rs:List (List UInt8)) (n:Nat) (l x:List UInt8) (h:rs[n]?=some l):((rs.set n x).map List.length).sum+l.length=(rs.map List.length).sum+x.length:=by
 induction rs generalizing n with
 | nil=>simp at h
 | cons a rs ih=>
   cases n with
   | zero=>
     simp only [List.getElem?_cons_zero,Option.some.injEq] at h
     subst h
     simp only [List.set_cons_zero,List.map_cons,List.sum_cons];omega
   | succ n=>
     have:=ih n (by simpa using h)
     simp only [List.set_cons_succ,List.map_cons,List.sum_cons];omega
theorem feedF_heft (c:Cf) (n:Nat) (f:Nat) (sp:Sp) (L:List UInt8):26*(feedF c n f sp L).1.E.length+(feedF c n f sp L).2.length<=26*sp.E.length+L.length:=by
 induction f generalizing sp L with
 | zero=>exact Nat.le_refl _
 | succ f ih=>
   rw [feedF]
   cases hs:unfShort L with
   | true=>exact Nat.le_refl _
   | false=>
     cases ho:unfOk L with
     | false=>
       simp only [Bool.false_eq_true,if_false,List.length_nil]
       show 26*sp.E.length+0<=_
       omega
     | true=>
       simp only [Bool.false_eq_true,if_false,if_true]
       refine Nat.le_trans (ih _ _) ?_
       have hlen:(L.getD 0 0).toNat+3<=L.length:=by
        unfold unfShort at hs
        simp only [decide_eq_false_iff_not] at hs;omega
       have hb:itemOfB (unfBody L)=true:=by unfold unfOk at ho;simp at ho;exact ho.2
       have hbl:(unfBody L).length=(L.getD 0 0).toNat:=by
        unfold unfBody;rw [List.length_take,List.length_drop];omega
       rw [List.length_drop]
       unfold itemF
       by_cases h1:(unfBody L).getD 0 0=1
       . rw [if_pos h1,line_E]
         have he:isEvent (unfBody L)=true:=by rw [itemOfB,if_pos h1] at hb;exact hb
         unfold isEvent at he
         simp only [Bool.and_eq_true,decide_eq_true_eq] at he
         have:=event0_len c sp n (evOf (unfBody L))
         omega
       . rw [if_neg h1,line_E,mark0_E];omega
end Go.Proofs.YtcfngdnmpogaoaaGreat
namespace Go.Proofs.YtcfngdnmpogaoaaGreat
open Go.RowKit
structure Pend (c:Cf) (T:Option Int) (sp:Sp) (ds:List Win):Prop where
 done:DoneOk c.size c.slide T sp.lt sp.li sp.E ds
 told:∀ x,T=some x->sp.li=true/\x<=sp.lt
 li:sp.E ≠ []->sp.li=true\/(leastS sp.src).2=true
 lt:sp.lt<=2305843009213693952
 src:∀ s ∈ sp.src,s.is=true->s.time<=2305843009213693952
theorem least_fold (l:List SrcS):∀ m:Int × Bool,(m.2=true->(l.foldl leastStepS m).2=true)/\((∃ s ∈ l,s.is=true)->(l.foldl leastStepS m).2=true)/\((l.foldl leastStepS m).2=true->(l.foldl leastStepS m=m)\/∃ s ∈ l,s.is=true/\(l.foldl leastStepS m).1=s.time):=by
 induction l with
 | nil=>intro m;exact ⟨fun h=>h,fun ⟨s,hs,_⟩=>(by cases hs),fun _=>.inl rfl⟩
 | cons a l ih=>
   intro m
   simp only [List.foldl_cons]
   obtain ⟨i1,i2,i3⟩:=ih (leastStepS m a)
   refine ⟨fun h=>i1 ?_,fun ⟨s,hs,h⟩=>?_,fun h=>?_⟩
   . unfold leastStepS;split
     . rfl
     . exact h
   . rcases List.mem_cons.1 hs with rfl | hs
     . refine i1 ?_
       unfold leastStepS
       rw [h]
       cases hm:m.2 with
       | true=>
         split
         . rfl
         . exact hm
       | false=>simp
     . exact i2 ⟨s,hs,h⟩
   . rcases i3 h with h1 | ⟨s,hs,h1,h2⟩
     . by_cases hc:(a.is && (!m.2 || decide (a.time < m.1)))=true
       . right
         have e1:leastStepS m a=(a.time,true):=if_pos hc
         rw [h1,e1]
         simp only [Bool.and_eq_true] at hc
         exact ⟨a,by simp,hc.1,rfl⟩
       . left
         have e1:leastStepS m a=m:=if_neg hc
         rw [h1,e1]
     . exact .inr ⟨s,List.mem_cons_of_mem _ hs,h1,h2⟩
theorem least_is {l:List SrcS}:(leastS l).2=true ↔ ∃ s ∈ l,s.is=true:=by
 obtain ⟨-,h2,h3⟩:=least_fold l (0,false)
 refine ⟨fun h=>?_,h2⟩
 rcases h3 h with h4 | ⟨s,hs,h4,-⟩
 . have h:(l.foldl leastStepS (0,false)).2=true:=h
   rw [h4] at h;cases h
 . exact ⟨s,hs,h4⟩
theorem least_of {l:List SrcS} (h:(leastS l).2=true):∃ s ∈ l,s.is=true/\(leastS l).1=s.time:=by
 obtain ⟨-,-,h3⟩:=least_fold l (0,false)
 rcases h3 h with h4 | h4
 . have h:(l.foldl leastStepS (0,false)).2=true:=h
   rw [h4] at h;cases h
 . exact h4
theorem Pend.n {c:Cf} {T:Option Int} {sp:Sp} {ds:List Win} (h:Pend c T sp ds) (m:RCounts):Pend c T { sp with n:=m } ds:=⟨h.done,h.told,h.li,h.lt,h.src⟩
theorem Pend.rest {c:Cf} {T:Option Int} {sp:Sp} {ds:List Win} (h:Pend c T sp ds) (hl:sp.line c=sp) (hE:sp.E ≠ []):sp.li=true:=by
 rcases h.li hE with h1 | h1
 . exact h1
 . have:=congrArg Sp.li hl
   rw [<- this]
   show (lineF c.late sp.src sp.lt sp.li).2=true
   unfold lineF
   rw [if_pos h1]
theorem Pend.moved {c:Cf} {T:Option Int} {sp:Sp} {ds:List Win} (h:Pend c T sp ds) (hc:1<=c.slide) (h0:0<=c.late) (t:Int) (hl:lineF c.late sp.src sp.lt sp.li=(t,true)) (hup:sp.li=true->sp.lt<=t):Pend c T (sp.line c) (ds++finAll c.size c.slide sp.lt t sp.li sp.E sp.E):=by
 have e1:(sp.line c).lt=t:=by show (lineF c.late sp.src sp.lt sp.li).1=t;rw [hl]
 have e2:(sp.line c).li=true:=by show (lineF c.late sp.src sp.lt sp.li).2=true;rw [hl]
 refine ⟨?_,fun x hx=>?_,fun _=>.inl e2,?_,h.src⟩
 . rw [e1,e2]
   exact h.done.move hc hup h.told
 . obtain ⟨h1,h2⟩:=h.told x hx
   rw [e1]
   have:=hup h1
   exact ⟨e2,by omega⟩
 . rw [e1]
   unfold lineF at hl
   split at hl
   . rename_i hs
     have hl1:=congrArg Prod.fst hl
     simp only at hl1
     split at hl1
     . obtain ⟨s,hs1,hs2,hs3⟩:=least_of hs
       have:=h.src s hs1 hs2
       omega
     . have:=h.lt;omega
   . have hl1:=congrArg Prod.fst hl
     simp only at hl1
     have:=h.lt;omega
theorem mem_modify {l:List SrcS} {n:Nat} {f:SrcS->SrcS} {x:SrcS} (h:x ∈ l.modify n f):x ∈ l\/∃ s ∈ l,x=f s:=by
 obtain ⟨i,hi,rfl⟩:=List.mem_iff_getElem.1 h
 rw [List.getElem_modify]
 split
 . exact .inr ⟨_,List.getElem_mem _,rfl⟩
 . exact .inl (List.getElem_mem _)
theorem raised_least {l:List SrcS} {n:Nat} {s:SrcS} (x:Int) (hs:l[n]?=some s):(leastS (l.modify n (raisedS x))).2=true:=by
 refine least_is.2 ⟨raisedS x s,?_,?_⟩
 . exact List.mem_of_getElem? (i:=n) (by rw [List.getElem?_modify,hs];simp)
 . unfold raisedS
   split
   . rfl
   . rename_i h
     cases hi:s.is with
     | true=>rfl
     | false=>exact absurd (.inl hi) h
theorem raised_src {l:List SrcS} {n:Nat} {x:Int} (h:∀ s ∈ l,s.is=true->s.time<=2305843009213693952) (hx:x<=2305843009213693952):∀ s ∈ l.modify n (raisedS x),s.is=true->s.time<=2305843009213693952:=fun s hs hi=>by
 rcases mem_modify hs with hs | ⟨a,ha,rfl⟩
 . exact h s hs hi
 . unfold raisedS at *
   split
   . exact hx
   . rename_i h1
     rw [if_neg h1] at hi
     exact h a ha hi
theorem Pend.raise {c:Cf} {T:Option Int} {sp:Sp} {ds:List Win} (h:Pend c T sp ds) (n:Nat) (s:SrcS) (hs:sp.src[n]?=some s) (x:Int) (hx:x<=2305843009213693952):Pend c T (sp.raise n x) ds:=
 ⟨h.done,h.told,fun _=>.inr (raised_least x hs),h.lt,raised_src h.src hx⟩
theorem Pend.event {c:Cf} {T:Option Int} {sp:Sp} {ds:List Win} (h:Pend c T sp ds) (n:Nat) (s:SrcS) (hs:sp.src[n]?=some s) (e:Ev) (he:e.t<=2305843009213693952) (hlt:(sp.li && decide (e.t < sp.lt))=false) (m:RCounts):Pend c T (({ sp with E:=sp.E++[e],n:=m }:Sp).raise n e.t) ds:=by
 refine ⟨h.done.event e (fun hl=>?_),h.told,fun _=>.inr (raised_least e.t hs),h.lt,raised_src h.src he⟩
 rw [hl] at hlt
 simp only [Bool.true_and,decide_eq_false_iff_not] at hlt
 omega
theorem Pend.opened {c:Cf} {T:Option Int} {sp:Sp} {ds:List Win} (h:Pend c T sp ds) (n:Nat):Pend c T (sp.open n) ds:=by
 refine ⟨h.done,h.told,fun hE=>?_,h.lt,fun s hs hi=>?_⟩
 . rcases h.li hE with h1 | h1
   . exact .inl h1
   . right
     obtain ⟨s,hs,hi⟩:=least_is.1 h1
     obtain ⟨j,hj,rfl⟩:=List.mem_iff_getElem.1 hs
     have hj2:j < (sp.src.modify n fun x=>⟨true,x.broken,x.time,x.is⟩).length:=by rw [List.length_modify];exact hj
     refine least_is.2 ⟨(sp.src.modify n fun x=>⟨true,x.broken,x.time,x.is⟩)[j],List.getElem_mem hj2,?_⟩
     rw [List.getElem_modify]
     split
     . exact hi
     . exact hi
 . rcases mem_modify hs with hs | ⟨a,ha,rfl⟩
   . exact h.src s hs hi
   . exact h.src a ha hi
theorem Pend.out {c:Cf} {T:Option Int} {sp:Sp} {ds:List Win} (h:Pend c T sp ds) (hl:sp.line c=sp) (n:Nat) (x:SrcS) (hx:x.is=false) (m:RCounts):Pend c T { sp with src:=sp.src.modify n (fun _=>x),n:=m } ds:=by
 refine ⟨h.done,h.told,fun hE=>.inl (h.rest hl hE),h.lt,fun s hs hi=>?_⟩
 rcases mem_modify hs with hs | ⟨a,ha,rfl⟩
 . exact h.src s hs hi
 . rw [hx] at hi;cases hi
theorem Pend.new (c:Cf):Pend c none Sp.new []:=by
 refine ⟨DoneOk.void _ _ _ _ _,fun x hx=>(by cases hx),fun hE=>absurd rfl hE,by decide,fun s hs hi=>?_⟩
 have hs:s ∈ List.replicate 8 (⟨false,false,0,false⟩:SrcS):=hs
 rw [List.eq_of_mem_replicate hs] at hi;cases hi
end Go.Proofs.YtcfngdnmpogaoaaGreat
namespace Go.Proofs.YtcfngdnmpogaoaaGreat
open Go.RowKit
variable {E:List Ev} {G X:Nat->Prop} {ds:List WinX} {g:Nat} {r:RCells} {w w':World}
structure CfOk (c:Cf):Prop where
 a1:1<=c.slide
 a2:c.slide<=c.size
 a3:c.size<=1099511627776
 a4:0<=c.late
 a5:c.late<=1099511627776
 a6:c.size<=4096*c.slide
structure RefOn (w:World) (g:Nat) (r:RCells) (E:List Ev) (ds:List WinX) (G:Nat->Prop):Prop where
 rev:REv w g r E
 done:WinsAt w r.done ds 0
 me:G g
 ev:∀ k,r.events.ownBlock=some k->G k
 dn:∀ k,r.done.ownBlock=some k->G k
 tg:∀ x ∈ ds,∀ k,x.tv.ownBlock=some k->G k
theorem REv.kept (h:REv w g r E) (hk:Kept X w w') (hg:¬ X g) (he:∀ k,r.events.ownBlock=some k->¬ X k):REv w' g r E:=⟨h.rf.congr (hk.block g h.rf.lt hg),h.ev.kept hk he⟩
theorem WinsAt.kept {v:Value} {xs:List WinX} {B:Nat} (h:WinsAt w v xs B) (hk:Kept X w w') (hv:∀ k,v.ownBlock=some k->¬ X k) (ht:∀ x ∈ xs,∀ k,x.tv.ownBlock=some k->¬ X k):WinsAt w' v xs B:=
 ⟨h.row.kept hk hv,fun x hx=>⟨(h.tags x hx).1.kept hk (ht x hx),(h.tags x hx).2⟩,h.blk,h.void⟩
theorem RefOn.kept (h:RefOn w g r E ds G) (hk:Kept X w w') (hX:∀ k,G k->¬ X k):RefOn w' g r E ds G:=
 ⟨h.rev.kept hk (hX _ h.me) (fun k hk=>hX k (h.ev k hk)),h.done.kept hk (fun k hk=>hX k (h.dn k hk)) (fun x hx k hk=>hX k (h.tg x hx k hk)),h.me,h.ev,h.dn,h.tg⟩
theorem RefOn.mono {G':Nat->Prop} (h:RefOn w g r E ds G) (hG:∀ k,G k->G' k):RefOn w g r E ds G':=
 ⟨h.rev,h.done,hG _ h.me,fun k hk=>hG k (h.ev k hk),fun k hk=>hG k (h.dn k hk),fun x hx k hk=>hG k (h.tg x hx k hk)⟩
theorem RefOn.turn {W:World} {r':RCells} {E':List Ev} (h:RefOn w g r E ds G) (hr:REv W g r' E') (hd:r'.done=r.done) (hk:Kept (fun k=>k=g\/r.events.ownBlock=some k) w W) (ho:∀ k,r'.events.ownBlock=some k->r.events.ownBlock=some k\/w.heap.size<=k):RefOn W g r' E' ds (Grown G w)/\Kept G w W:=by
 have hdn:∀ k,r.done.ownBlock=some k->¬ (k=g\/r.events.ownBlock=some k):=fun k hkd hh=>by
  rcases hh with rfl | hh
  . exact (h.done.row.cb hkd).ne (Cb.of h.rev.rf.blk) (by decide) rfl
  . exact (h.done.row.cb hkd).ne (h.rev.ev.cb hh) (by decide) rfl
 have htg:∀ x ∈ ds,∀ k,x.tv.ownBlock=some k->¬ (k=g\/r.events.ownBlock=some k):=fun x hx k hkd hh=>by
  rcases hh with rfl | hh
  . exact ((h.done.tags x hx).1.cb hkd).ne (Cb.of h.rev.rf.blk) (by decide) rfl
  . exact ((h.done.tags x hx).1.cb hkd).ne (h.rev.ev.cb hh) (by decide) rfl
 refine ⟨⟨hr,?_,.inl h.me,fun k hk=>?_,fun k hk=>.inl (h.dn k (by rw [<- hd];exact hk)),fun x hx k hk=>.inl (h.tg x hx k hk)⟩,hk.mono (fun k _ hh=>?_)⟩
 . rw [hd];exact h.done.kept hk hdn htg
 . rcases ho k hk with hh | hh
   . exact .inl (h.ev k hh)
   . exact .inr hh
 . rcases hh with rfl | hh
   . exact h.me
   . exact h.ev k hh
def Ref (T:Option Int × Nat) (w:World) (g:Nat) (c:Cf) (sp:Sp) (rs:List (List UInt8)) (G:Nat->Prop):Prop:=∃ r ds,RefOn w g r sp.E ds G/\RefRel c sp rs r (T.2+ds.length)/\sp.line c=sp/\Pend c T.1 sp (ds.map WinX.w)
theorem lines_ref {T:Option Int × Nat} (w:World) (g:Nat) (c:Cf) (sp:Sp) (rs:List (List UInt8)) (G:Nat->Prop) (r:RCells) (ds:List WinX) (hc:CfOk c) (h:RefOn w g r sp.E ds G) (hr:RefRel c sp rs r (T.2+ds.length)) (hP:Pend c T.1 sp (ds.map WinX.w)) (hE:sp.E.length<=200000) :
 Calls Tryz.prog 80 #[.pointer (some ⟨g,0,none⟩)] w fun e w'=>e=.returned (.tuple #[])/\Ref T w' g c (sp.line c) rs (Grown G w)/\Kept G w w':=by
 have hdl:ds.length<=1000000000:=by
  have h1:=hr.done
  have h2:=cntAll_le c.size c.slide sp.lt sp.li sp.E hc.a1 hc.a6
  omega
 refine (lines_any g r sp.E ds w h.rev h.done hE hr.ok hdl (by rw [hr.slide];exact hc.a1) (by rw [hr.slide,hr.size];exact hc.a2) (by rw [hr.size];exact hc.a3) (by rw [hr.slide,hr.size];exact hc.a6)).mono ?_
 rintro e w' ⟨rfl,hh⟩
 obtain ⟨l1,l2⟩:=line_rel sp.E hr.src hr.line hr.lined
 rcases hh with ⟨h1,h2,h3⟩ | ⟨t,dv,xs,h1,h2,h3⟩
 . have hl:sp.line c=sp:=by
    unfold Sp.line
    rw [l1 h1]
   rw [hl]
   exact ⟨rfl,⟨r,ds,(h.kept (Kept.ofBelow h3 (fun _=>False)) (fun _ _ hh=>hh)).mono (fun k hk=>.inl hk),hr,hl,hP⟩,Kept.ofBelow h3 _⟩
 . have hl:=l2 t h1
   have hlt:(sp.line c).lt=t:=by show (lineF c.late sp.src sp.lt sp.li).1=t;rw [hl]
   have hli:(sp.line c).li=true:=by show (lineF c.late sp.src sp.lt sp.li).2=true;rw [hl]
   have hup:sp.li=true->sp.lt<=t:=fun hi=>by
    unfold lineF at hl
    split at hl
    . split at hl
      . rename_i hx
        rcases hx with hx | hx
        . rw [hi] at hx;cases hx
        . have:=congrArg Prod.fst hl
          simp only at this;omega
      . have:=congrArg Prod.fst hl
        simp only at this;omega
    . have:=congrArg Prod.fst hl
      simp only at this;omega
   have hlen:xs.length<=(sp.E.map fun e=>finN c.size c.slide sp.lt t sp.li e (winN c.size c.slide e.t)).sum:=by
    have e1:xs.length=(finAll r.size r.slide r.line t r.lined sp.E sp.E).length:=by rw [<- h3,List.length_map]
    rw [e1,hr.size,hr.slide,hr.line,hr.lined]
    exact finAll_cnt _ _ _ _ _ _ _
   have hmv:=cntAll_move c.size c.slide sp.lt t sp.li hup sp.E
   have hdn:=hr.done
   refine ⟨rfl,⟨_,ds++xs,⟨h2.rev,h2.done,.inl h.me,fun k hk=>.inl (h.ev k hk),fun k hk=>?_,fun x hx k hk=>?_⟩,⟨hr.size,hr.slide,hr.late,hr.keys,hlt.symm,hli.symm,hr.n,hr.src,hr.rl,hr.rest,?_,hr.ok,hr.shut⟩,sp.line_line c,?_⟩,h2.kept.mono (fun k _ hh=>?_)⟩
   . rcases h2.own k hk with hh | hh
     . exact .inl (h.dn k hh)
     . exact .inr hh
   . rcases h2.tags x hx with hh | hh
     . exact .inl (h.tg x hh k hk)
     . exact .inr (hh k hk)
   . rw [hlt,hli,List.length_append]
     show _<=cntAll c.size c.slide t true sp.E
     omega
   . have h9:=hP.moved hc.a1 hc.a4 t hl hup
     rw [List.map_append,h3,hr.size,hr.slide,hr.line,hr.lined]
     exact h9
   . rcases hh with rfl | hh
     . exact h.me
     . exact h.dn k hh
end Go.Proofs.YtcfngdnmpogaoaaGreat
