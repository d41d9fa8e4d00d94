import Derived.Test.YtcfngdnmpogaoaaGreatTkT32
import Derived.Test.YtcfngdnmpogaoaaGreatTkT29
import Derived.Test.YtcfngdnmpogaoaaGreatTkT30
namespace Go.Proofs.YtcfngdnmpogaoaaGreat
open Go.RowKit Go.MuLone
set_option maxHeartbeats 1600000
theorem SCells.relock (r:SCells) (h:r.lk=0):(r.lock 1).lock 0=r:=by cases r;simp only at h;subst h;rfl
theorem feed_refused (g:Nat) (n:Int) (r:SCells) (bv:Value) (code:Int) (w:World) (h:SF w g r) (hlk:r.lk=0) (hc:code=3\/code=4)
 (hop:∀ W,SF W g (r.lock 1)->Calls Tryz.prog 44 #[.pointer (some ⟨g,0,none⟩),.int .i64 n] W fun e w'=>e=.returned (.tuple #[.pointer none,.int .i64 code])/\w'=W) :
 Calls Tryz.prog 20 #[.pointer (some ⟨g,0,none⟩),.int .i64 n,bv] w fun e w'=>e=.returned (.int .i64 code)/\SF w' g r/\Kept (fun k=>k=g) w w':=by
 have h0:=h.lockAt hlk
 have f0:=h.frozen 0
 have H1:=hid (h.putLock 1)
 have K1:Hid (Kept (fun k=>k=g) w (w.setCell ⟨g,0,none⟩ (.int .i32 1))):=(Kept.refl _ w).setCell ⟨g,0,none⟩ _ (fun _=>rfl)
 have HO:=hid hop
 clear h hop
 go_enter_defers Tryz.func20,Tryz.ntmps20
 go_wp2_with (go_at_call 42;refine (lock_free muLib ⟨g,0,none⟩ _ h0 f0).mono ?_;rintro e w' ⟨rfl,rfl⟩)
 generalize w.setCell ⟨g,0,none⟩ (.int .i32 1)=W1 at *
 clear h0 f0
 refine (HO.out W1 H1.out).mono ?_
 rintro e w' ⟨rfl,rfl⟩
 rcases hc with rfl | rfl
 all_goals
  go_wp2_with fail
  refine leaves_cons (f:=43) (args:=#[.pointer (some ⟨g,0,none⟩)]) (by simp) (by simp [go_sem]) ?_
  refine (unlock_deferred muLib ⟨g,0,none⟩ .returning _ (H1.out.lockAt rfl) (H1.out.frozen _)).mono ?_
  rintro e u' w'' ⟨rfl,rfl,rfl⟩
  refine ⟨_,results_tmp rfl _ _ _,rfl,?_,K1.out.setCell ⟨g,0,none⟩ _ (fun _=>rfl)⟩
  have:=H1.out.putLock 0
  rw [r.relock hlk] at this;exact this
theorem close_refused (g:Nat) (n:Int) (r:SCells) (code:Int) (w:World) (h:SF w g r) (hlk:r.lk=0) (hc:code=3\/code=4)
 (hop:∀ W,SF W g (r.lock 1)->Calls Tryz.prog 44 #[.pointer (some ⟨g,0,none⟩),.int .i64 n] W fun e w'=>e=.returned (.tuple #[.pointer none,.int .i64 code])/\w'=W) :
 Calls Tryz.prog 49 #[.pointer (some ⟨g,0,none⟩),.int .i64 n] w fun e w'=>e=.returned (.int .i64 code)/\SF w' g r/\Kept (fun k=>k=g) w w':=by
 have h0:=h.lockAt hlk
 have f0:=h.frozen 0
 have H1:=hid (h.putLock 1)
 have K1:Hid (Kept (fun k=>k=g) w (w.setCell ⟨g,0,none⟩ (.int .i32 1))):=(Kept.refl _ w).setCell ⟨g,0,none⟩ _ (fun _=>rfl)
 have HO:=hid hop
 clear h hop
 go_enter_defers Tryz.func49,Tryz.ntmps49
 go_wp2_with (go_at_call 42;refine (lock_free muLib ⟨g,0,none⟩ _ h0 f0).mono ?_;rintro e w' ⟨rfl,rfl⟩)
 generalize w.setCell ⟨g,0,none⟩ (.int .i32 1)=W1 at *
 clear h0 f0
 refine (HO.out W1 H1.out).mono ?_
 rintro e w' ⟨rfl,rfl⟩
 rcases hc with rfl | rfl
 all_goals
  go_wp2_with fail
  refine leaves_cons (f:=43) (args:=#[.pointer (some ⟨g,0,none⟩)]) (by simp) (by simp [go_sem]) ?_
  refine (unlock_deferred muLib ⟨g,0,none⟩ .returning _ (H1.out.lockAt rfl) (H1.out.frozen _)).mono ?_
  rintro e u' w'' ⟨rfl,rfl,rfl⟩
  refine ⟨_,results_tmp rfl _ _ _,rfl,?_,K1.out.setCell ⟨g,0,none⟩ _ (fun _=>rfl)⟩
  have:=H1.out.putLock 0
  rw [r.relock hlk] at this;exact this
theorem open_out (g:Nat) (n:Int) (r:SCells) (w:World) (h:SF w g r) (hlk:r.lk=0) (hn:¬ (0<=n/\n < 8)) :
 Calls Tryz.prog 22 #[.pointer (some ⟨g,0,none⟩),.int .i64 n] w fun e w'=>e=.returned (.int .i64 3)/\SF w' g r/\Kept (fun k=>k=g) w w':=by
 have hi:=isSource_any n
 rw [decide_eq_false hn] at hi
 have h0:=h.lockAt hlk
 have f0:=h.frozen 0
 have H1:=hid (h.putLock 1)
 have K1:Hid (Kept (fun k=>k=g) w (w.setCell ⟨g,0,none⟩ (.int .i32 1))):=(Kept.refl _ w).setCell ⟨g,0,none⟩ _ (fun _=>rfl)
 clear h hn
 go_enter_defers Tryz.func22,Tryz.ntmps22
 go_wp2_with (go_at_call 42;refine (lock_free muLib ⟨g,0,none⟩ _ h0 f0).mono ?_;rintro e w' ⟨rfl,rfl⟩)
 generalize w.setCell ⟨g,0,none⟩ (.int .i32 1)=W1 at *
 clear h0 f0
 refine (hi _).mono ?_
 rintro e w' ⟨rfl,rfl⟩
 go_wp2_with fail
 refine leaves_cons (f:=43) (args:=#[.pointer (some ⟨g,0,none⟩)]) (by simp) (by simp [go_sem]) ?_
 refine (unlock_deferred muLib ⟨g,0,none⟩ .returning _ (H1.out.lockAt rfl) (H1.out.frozen _)).mono ?_
 rintro e u' w'' ⟨rfl,rfl,rfl⟩
 refine ⟨_,results_tmp rfl _ _ _,rfl,?_,K1.out.setCell ⟨g,0,none⟩ _ (fun _=>rfl)⟩
 have:=H1.out.putLock 0
 rw [r.relock hlk] at this;exact this
theorem open_no (g n:Nat) (r:SCells) (s:SSrc) (w:World) (h:SF w g r) (hlk:r.lk=0) (hs:r.src[n]?=some s) (ho:s.opened=true) :
 Calls Tryz.prog 22 #[.pointer (some ⟨g,0,none⟩),.int .i64 n] w fun e w'=>e=.returned (.int .i64 4)/\SF w' g r/\Kept (fun k=>k=g) w w':=by
 have hn:n < 8:=by have:=(List.getElem?_eq_some_iff.1 hs).1;have:=h.len;omega
 have hi:=isSource_any n
 rw [decide_eq_true (show 0<=(n:Int)/\(n:Int) < 8 by omega)] at hi
 have h0:=h.lockAt hlk
 have f0:=h.frozen 0
 have H1:=hid (h.putLock 1)
 have K1:Hid (Kept (fun k=>k=g) w (w.setCell ⟨g,0,none⟩ (.int .i32 1))):=(Kept.refl _ w).setCell ⟨g,0,none⟩ _ (fun _=>rfl)
 clear h
 go_enter_defers Tryz.func22,Tryz.ntmps22
 go_wp2_with (go_at_call 42;refine (lock_free muLib ⟨g,0,none⟩ _ h0 f0).mono ?_;rintro e w' ⟨rfl,rfl⟩)
 generalize w.setCell ⟨g,0,none⟩ (.int .i32 1)=W1 at *
 have c0:W1.cell? ⟨g,6+n*5,none⟩=some (.bool true):=H1.out.cell (by rw [<- ho];exact (r.lock 1).srcAt n 0 s hs (by omega))
 clear h0 f0
 refine (hi _).mono ?_
 rintro e w' ⟨rfl,rfl⟩
 go_wp2_with fail
 refine leaves_cons (f:=43) (args:=#[.pointer (some ⟨g,0,none⟩)]) (by simp) (by simp [go_sem]) ?_
 refine (unlock_deferred muLib ⟨g,0,none⟩ .returning _ (H1.out.lockAt rfl) (H1.out.frozen _)).mono ?_
 rintro e u' w'' ⟨rfl,rfl,rfl⟩
 refine ⟨_,results_tmp rfl _ _ _,rfl,?_,K1.out.setCell ⟨g,0,none⟩ _ (fun _=>rfl)⟩
 have:=H1.out.putLock 0
 rw [r.relock hlk] at this;exact this
theorem new_no (size slide late keys:Int) (w:World) (hc:¬ isConf size slide late keys) :
 Calls Tryz.prog 41 #[confV size slide late keys] w fun e w'=>e=.returned (.tuple #[.pointer none,.int .i64 1])/\Below w.heap.size w w':=by
 have HC:=hid hc
 clear hc
 go_enter Tryz.func41,Tryz.ntmps41
 go_wp2_with fail
 refine (isConfig_any size slide late keys _).mono ?_
 rintro e W ⟨⟨b,rfl,hb⟩,hB⟩
 have hbt:b=false:=by
  cases b with
  | false=>rfl
  | true=>exact absurd (hb.1 rfl) HC.out
 subst hbt
 have HB:Hid (Below w.heap.size w W):=((Below.refl _ w).alloc (Nat.le_refl _) _).trans (hB.mono (by simp))
 clear hB hb
 go_wp2_with fail
 exact bodyPost_ret (results_tmp2 rfl _ _ _) rfl ⟨rfl,HB.out⟩
end Go.Proofs.YtcfngdnmpogaoaaGreat
namespace Go.Proofs.YtcfngdnmpogaoaaGreat
open Go.RowKit Go.MuLone
theorem FlowOn.touch {w:World} {g:Nat} {c:Cf} {sp:Sp} {rs:List (List UInt8)} {F:Nat->Prop} {T:Option Int} (h:FlowOn w g c sp rs F T) :
 ∃ r,SF w g r/\r.lk=0/\r.n=sp.n/\r.lt=sp.lt/\r.li=sp.li/\r.src.map srcS=sp.src/\F g/\∀ w',SF w' g r->Kept (fun k=>k=g) w w'->FlowOn w' g c sp rs F T:=by
 obtain ⟨us,⟨st,⟨r,gs,es,h3,rfl,hlk,rfl,h5⟩,hm,hfit,h4,h6⟩,h2⟩:=h
 refine ⟨r,h3.sf,hlk,congrArg Sp.n h4,congrArg Sp.lt h4,congrArg Sp.li h4,congrArg Sp.src h4,h5 g (.inl rfl),fun w' hs hk=>?_⟩
 exact ⟨_,⟨_,⟨r,gs,es,h3.turn hk hs rfl rfl,rfl,hlk,rfl,h5⟩,hm,hfit,h4,h6⟩,h2.step (h3.bytes8 (hk.mono (fun k _ e=>.inl e))) (fun k hk=>hk)⟩
theorem FlowOn.srcLen {w:World} {g:Nat} {c:Cf} {sp:Sp} {rs:List (List UInt8)} {F:Nat->Prop} {T:Option Int} (h:FlowOn w g c sp rs F T):sp.src.length=8/\rs.length=8:=by
 obtain ⟨us,h1,h2⟩:=h
 exact ⟨h1.srcLen.1,h2.rl⟩
theorem srcAtS {l:List SSrc} {m:List SrcS} (h:l.map srcS=m) {n:Nat} {s:SrcS} (hs:m[n]?=some s):∃ x,l[n]?=some x/\srcS x=s:=by
 rw [<- h,List.getElem?_map] at hs
 cases hx:l[n]? with
 | none=>rw [hx] at hs;cases hs
 | some x=>rw [hx] at hs;exact ⟨x,rfl,by simpa using hs⟩
theorem feed_out_on (g:Nat) (n:Int) (c:Cf) (sp:Sp) (rs:List (List UInt8)) (F:Nat->Prop) (T:Option Int) (bv:Value) (w:World) (h:FlowOn w g c sp rs F T) (hn:¬ (0<=n/\n < 8)) :
 Calls Tryz.prog 20 #[.pointer (some ⟨g,0,none⟩),.int .i64 n,bv] w fun e w'=>e=.returned (.int .i64 3)/\FlowOn w' g c sp rs F T/\Kept F w w':=by
 obtain ⟨r,h1,h2,-,-,-,-,hF,h3⟩:=h.touch
 refine (feed_refused g n r bv 3 w h1 h2 (.inl rfl) (fun W _=>openSource_out g n W hn)).mono ?_
 rintro e w' ⟨rfl,h4,h5⟩
 exact ⟨rfl,h3 w' h4 h5,h5.mono (fun k _ e=>by rw [e];exact hF)⟩
theorem feed_no_on (g n:Nat) (c:Cf) (sp:Sp) (rs:List (List UInt8)) (F:Nat->Prop) (T:Option Int) (bv:Value) (s:SrcS) (w:World) (h:FlowOn w g c sp rs F T) (hs:sp.src[n]?=some s) (ho:s.opened=false) :
 Calls Tryz.prog 20 #[.pointer (some ⟨g,0,none⟩),.int .i64 n,bv] w fun e w'=>e=.returned (.int .i64 4)/\FlowOn w' g c sp rs F T/\Kept F w w':=by
 obtain ⟨r,h1,h2,-,-,-,hm,hF,h3⟩:=h.touch
 obtain ⟨x,hx,rfl⟩:=srcAtS hm hs
 refine (feed_refused g n r bv 4 w h1 h2 (.inr rfl) (fun W hW=>openSource_no g n (r.lock 1) x W hW hx ho)).mono ?_
 rintro e w' ⟨rfl,h4,h5⟩
 exact ⟨rfl,h3 w' h4 h5,h5.mono (fun k _ e=>by rw [e];exact hF)⟩
theorem feed_broken_on (g n:Nat) (c:Cf) (sp:Sp) (rs:List (List UInt8)) (F:Nat->Prop) (T:Option Int) (bv:Value) (s:SrcS) (w:World) (h:FlowOn w g c sp rs F T) (hs:sp.src[n]?=some s) (ho:s.opened=true) (hb:s.broken=true) :
 Calls Tryz.prog 20 #[.pointer (some ⟨g,0,none⟩),.int .i64 n,bv] w fun e w'=>e=.returned (.int .i64 0)/\FlowOn w' g c sp rs F T/\Kept F w w':=by
 obtain ⟨r,h1,h2,-,-,-,hm,hF,h3⟩:=h.touch
 obtain ⟨x,hx,rfl⟩:=srcAtS hm hs
 refine (feed_of g n r x bv w h1 h2 hx ho (fun W=>SF W g (r.lock 1)/\Kept (fun k=>k=g) w W) (fun W hW=>⟨hW.1.lockAt rfl,hW.1.frozen _⟩) (fun W hW kW=>?_)).mono ?_
 . refine (read_broken g (6+n*5) bv W (by rw [<- (show x.broken=true from hb)];exact hW.cell (SCells.srcAt _ n 1 x hx (by omega)))).mono ?_
   rintro e w' ⟨rfl,rfl⟩
   exact ⟨rfl,hW,kW⟩
 . rintro e w' ⟨rfl,W,⟨h4,h5⟩,rfl⟩
   have k6:Kept (fun k=>k=g) w (W.setCell ⟨g,0,none⟩ (.int .i32 0)):=h5.setCell ⟨g,0,none⟩ _ (fun _=>rfl)
   have h7:=h4.putLock 0
   rw [r.relock h2] at h7
   exact ⟨rfl,h3 _ h7 k6,k6.mono (fun k _ e=>by rw [e];exact hF)⟩
theorem close_out_on (g:Nat) (n:Int) (c:Cf) (sp:Sp) (rs:List (List UInt8)) (F:Nat->Prop) (T:Option Int) (w:World) (h:FlowOn w g c sp rs F T) (hn:¬ (0<=n/\n < 8)) :
 Calls Tryz.prog 49 #[.pointer (some ⟨g,0,none⟩),.int .i64 n] w fun e w'=>e=.returned (.int .i64 3)/\FlowOn w' g c sp rs F T/\Kept F w w':=by
 obtain ⟨r,h1,h2,-,-,-,-,hF,h3⟩:=h.touch
 refine (close_refused g n r 3 w h1 h2 (.inl rfl) (fun W _=>openSource_out g n W hn)).mono ?_
 rintro e w' ⟨rfl,h4,h5⟩
 exact ⟨rfl,h3 w' h4 h5,h5.mono (fun k _ e=>by rw [e];exact hF)⟩
theorem close_no_on (g n:Nat) (c:Cf) (sp:Sp) (rs:List (List UInt8)) (F:Nat->Prop) (T:Option Int) (s:SrcS) (w:World) (h:FlowOn w g c sp rs F T) (hs:sp.src[n]?=some s) (ho:s.opened=false) :
 Calls Tryz.prog 49 #[.pointer (some ⟨g,0,none⟩),.int .i64 n] w fun e w'=>e=.returned (.int .i64 4)/\FlowOn w' g c sp rs F T/\Kept F w w':=by
 obtain ⟨r,h1,h2,-,-,-,hm,hF,h3⟩:=h.touch
 obtain ⟨x,hx,rfl⟩:=srcAtS hm hs
 refine (close_refused g n r 4 w h1 h2 (.inr rfl) (fun W hW=>openSource_no g n (r.lock 1) x W hW hx ho)).mono ?_
 rintro e w' ⟨rfl,h4,h5⟩
 exact ⟨rfl,h3 w' h4 h5,h5.mono (fun k _ e=>by rw [e];exact hF)⟩
theorem open_out_on (g:Nat) (n:Int) (c:Cf) (sp:Sp) (rs:List (List UInt8)) (F:Nat->Prop) (T:Option Int) (w:World) (h:FlowOn w g c sp rs F T) (hn:¬ (0<=n/\n < 8)) :
 Calls Tryz.prog 22 #[.pointer (some ⟨g,0,none⟩),.int .i64 n] w fun e w'=>e=.returned (.int .i64 3)/\FlowOn w' g c sp rs F T/\Kept F w w':=by
 obtain ⟨r,h1,h2,-,-,-,-,hF,h3⟩:=h.touch
 refine (open_out g n r w h1 h2 hn).mono ?_
 rintro e w' ⟨rfl,h4,h5⟩
 exact ⟨rfl,h3 w' h4 h5,h5.mono (fun k _ e=>by rw [e];exact hF)⟩
theorem open_no_on (g n:Nat) (c:Cf) (sp:Sp) (rs:List (List UInt8)) (F:Nat->Prop) (T:Option Int) (s:SrcS) (w:World) (h:FlowOn w g c sp rs F T) (hs:sp.src[n]?=some s) (ho:s.opened=true) :
 Calls Tryz.prog 22 #[.pointer (some ⟨g,0,none⟩),.int .i64 n] w fun e w'=>e=.returned (.int .i64 4)/\FlowOn w' g c sp rs F T/\Kept F w w':=by
 obtain ⟨r,h1,h2,-,-,-,hm,hF,h3⟩:=h.touch
 obtain ⟨x,hx,rfl⟩:=srcAtS hm hs
 refine (open_no g n r x w h1 h2 hx ho).mono ?_
 rintro e w' ⟨rfl,h4,h5⟩
 exact ⟨rfl,h3 w' h4 h5,h5.mono (fun k _ e=>by rw [e];exact hF)⟩
theorem line_on (g:Nat) (c:Cf) (sp:Sp) (rs:List (List UInt8)) (F:Nat->Prop) (T:Option Int) (w:World) (h:FlowOn w g c sp rs F T) :
 Calls Tryz.prog 29 #[.pointer (some ⟨g,0,none⟩)] w fun e w'=>e=.returned (.tuple #[.int .i64 sp.lt,.bool sp.li])/\FlowOn w' g c sp rs F T/\Kept F w w':=by
 obtain ⟨r,h1,h2,-,e1,e2,-,hF,h3⟩:=h.touch
 rw [<- e1,<- e2]
 refine (line_any g r w h1 h2).mono ?_
 rintro e w' ⟨rfl,h4,h5⟩
 exact ⟨rfl,h3 w' h4 h5,h5.mono (fun k _ e=>by rw [e];exact hF)⟩
theorem counts_on (g:Nat) (c:Cf) (sp:Sp) (rs:List (List UInt8)) (F:Nat->Prop) (T:Option Int) (w:World) (h:FlowOn w g c sp rs F T) :
 Calls Tryz.prog 27 #[.pointer (some ⟨g,0,none⟩)] w fun e w'=>e=.returned (countsV sp.n)/\FlowOn w' g c sp rs F T/\Kept F w w':=by
 obtain ⟨r,h1,h2,e1,-,-,-,hF,h3⟩:=h.touch
 rw [<- e1]
 refine (counts_any g r w h1 h2).mono ?_
 rintro e w' ⟨rfl,h4,h5⟩
 exact ⟨rfl,h3 w' h4 h5,h5.mono (fun k _ e=>by rw [e];exact hF)⟩
def Sp.open (s:Sp) (n:Nat):Sp:={ s with src:=s.src.modify n (fun x=>⟨true,x.broken,x.time,x.is⟩) }
def Sp.close0 (s:Sp) (n:Nat):Sp:={ s with src:=s.src.modify n (fun _=>⟨false,false,0,false⟩) }
theorem modify_fits {l:List SrcS} (h:SrcFits l) (n:Nat) (f:SrcS->SrcS) (hf:∀ s ∈ l,-2305843009213693952<=(f s).time/\(f s).time<=2305843009213693952):SrcFits (l.modify n f):=fun s hs=>by
 obtain ⟨i,hi,rfl⟩:=List.mem_iff_getElem.1 hs
 rw [List.getElem_modify]
 have hi':i < l.length:=by simpa using hi
 split
 . exact hf _ (by simp)
 . exact h _ (by simp)
theorem open_on (g n:Nat) (c:Cf) (sp:Sp) (rs:List (List UInt8)) (F:Nat->Prop) (T:Option Int) (s:SrcS) (w:World) (h:FlowOn w g c sp rs F T) (hs:sp.src[n]?=some s) (ho:s.opened=false) :
 Calls Tryz.prog 22 #[.pointer (some ⟨g,0,none⟩),.int .i64 n] w fun e w'=>e=.returned (.int .i64 0)/\FlowOn w' g c (sp.open n) rs F T/\Kept F w w':=by
 obtain ⟨us,⟨st,⟨r,gs,es,h3,rfl,hlk,rfl,h5⟩,hm,hfit,h4,rfl⟩,h2⟩:=h
 have hsrc:=congrArg Sp.src h4
 obtain ⟨x,hx,rfl⟩:=srcAtS hsrc hs
 refine (open_yes g n r x w h3.sf hlk hx ho).mono ?_
 rintro e w' ⟨rfl,h6,h7⟩
 have hun:(r.src.set n ⟨true,x.broken,x.unread,x.time,x.is⟩).map SSrc.unread=r.src.map SSrc.unread:=by
  refine List.ext_getElem? (fun i=>?_)
  rw [List.getElem?_map,List.getElem?_set,List.getElem?_map]
  by_cases hi:n=i
  . subst hi
    have hl:n < r.src.length:=(List.getElem?_eq_some_iff.1 hx).1
    rw [if_pos rfl,if_pos hl,hx];rfl
  . simp [hi]
 have kb:=h3.bytes8 (h7.mono (fun k _ e=>.inl e))
 refine ⟨rfl,⟨_,⟨stOf (r.setSrc n ⟨true,x.broken,x.unread,x.time,x.is⟩) gs es,⟨_,gs,es,h3.turn h7 h6 rfl rfl,rfl,hlk,hun,fun k hk=>h5 k ?_⟩,hm.congr rfl rfl rfl rfl rfl rfl rfl rfl,modify_fits hfit n _ (fun y hy=>hfit y hy),?_,rfl⟩,h2.step kb (fun k hk=>hk)⟩,h7.mono (fun k _ e=>by rw [e];exact h5 g (.inl rfl))⟩
 . rcases hk with hj | hj | hj | hj
   . exact .inl hj
   . exact .inr (.inl hj)
   . exact .inr (.inr (.inl hj))
   . exact .inr (.inr (.inr hj))
 . unfold Sp.open
   rw [<- h4]
   unfold spOf stOf
   simp only [Sp.mk.injEq,true_and]
   first | exact ⟨src_set r.src n x _ _ hx rfl,rfl,rfl,rfl⟩ | exact src_set r.src n x _ _ hx rfl
theorem close_on (g n:Nat) (c:Cf) (sp:Sp) (rs:List (List UInt8)) (F:Nat->Prop) (T:Option Int) (s:SrcS) (w:World) (h:FlowOn w g c sp rs F T) (hs:sp.src[n]?=some s) (ho:s.opened=true) (hE:sp.E.length<=100000000) :
 Calls Tryz.prog 49 #[.pointer (some ⟨g,0,none⟩),.int .i64 n] w fun e w'=>e=.returned (.int .i64 0)/\FlowOn w' g c ((sp.close0 n).line c) (rs.set n []) (Grown F w) T/\Kept F w w':=by
 obtain ⟨us,⟨st,⟨r,gs,es,h3,rfl,hlk,rfl,h5⟩,hm,hfit,h4,rfl⟩,h2⟩:=h
 have hsrc:=congrArg Sp.src h4
 obtain ⟨x,hx,rfl⟩:=srcAtS hsrc hs
 have hFg:=h5 g (.inl rfl)
 refine (close_of g n r x w h3.sf hlk hx ho (fun W=>FlowSp W g 1 (cfOf (stOf r gs es)) ((sp.close0 n).line (cfOf (stOf r gs es))) ((r.src.map SSrc.unread).set n (.slice none 0 0)) (Grown F w) T/\Kept F w W/\Bytes8 w W) (fun W hW=>hW.1.lockAt) (fun W h6 k6=>?_)).mono ?_
 . have hk6:Kept (flowFoot g r gs es) w W:=k6.mono (fun k _ e=>.inl e)
   have hsp:spOf (stOf ((r.lock 1).setSrc n SSrc.zero) gs es) sp.E=sp.close0 n:=by
    unfold Sp.close0
    rw [<- h4]
    unfold spOf stOf
    simp only [Sp.mk.injEq,true_and]
    exact ⟨src_set r.src n x _ _ hx rfl,rfl,rfl,rfl⟩
   refine (moveLine_sp g 1 (cfOf (stOf r gs es)) (sp.close0 n) ((r.src.map SSrc.unread).set n (.slice none 0 0)) F T W ⟨stOf ((r.lock 1).setSrc n SSrc.zero) gs es,⟨_,gs,es,h3.turn k6 h6 rfl rfl,rfl,rfl,set_map _ _ _ _,fun k hk=>h5 k ?_⟩,hm.congr rfl rfl rfl rfl rfl rfl rfl rfl,modify_fits hfit n _ (fun _ _=>by decide),hsp,rfl⟩ hE).mono ?_
   . rcases hk with hk | hk | hk | hk
     . exact .inl hk
     . exact .inr (.inl hk)
     . exact .inr (.inr (.inl hk))
     . exact .inr (.inr (.inr hk))
   . rintro e w' ⟨rfl,h7,h8,h9⟩
     refine ⟨rfl,h7.mono (fun k hk=>?_),(hk6.mono (fun k _ e=>h5 k e)).trans h8,(h3.bytes8 hk6).trans h9⟩
     rcases hk with hk | hk
     . exact .inl hk
     . exact .inr (by have:=k6.size;omega)
 . rintro e w' ⟨rfl,W,⟨a1,a2,a3⟩,rfl⟩
   obtain ⟨b1,b2⟩:=a1.lock 0
   have kk:Kept F W (W.setCell ⟨g,0,none⟩ (.int .i32 0)):=(Kept.refl _ W).setCell ⟨g,_,none⟩ _ (fun _=>hFg)
   have hb8:Bytes8 W (W.setCell ⟨g,0,none⟩ (.int .i32 0)):=by
    obtain ⟨st',⟨r',gs',es',z1,_⟩,_⟩:=a1
    exact z1.bytes8 ((Kept.refl _ W).setCell ⟨g,_,none⟩ _ (fun _=>.inl rfl))
   exact ⟨rfl,⟨_,b1,(h2.step (a3.trans hb8) (fun k hk=>.inl hk)).set n _ [] (Row.nil _ _ _) (fun k hk=>by simp [Value.ownBlock] at hk) (by simp)⟩,a2.trans kk⟩
def Sp.new:Sp:=⟨List.replicate 8 ⟨false,false,0,false⟩,[],0,false,⟨0,0,0,0,0,0⟩⟩
theorem new_on (size slide late keys:Int) (w:World) (hc:isConf size slide late keys) :
 Calls Tryz.prog 41 #[confV size slide late keys] w fun e w'=>∃ g,w.heap.size<=g/\e=.returned (.tuple #[.pointer (some ⟨g,0,none⟩),.int .i64 0])/\FlowOn w' g ⟨size,slide,late,keys⟩ Sp.new (List.replicate 8 []) (fun k=>k=g) none/\Below w.heap.size w w':=by
 refine (new_yes size slide late keys w hc).mono ?_
 rintro e w' ⟨g,h1,h2,h3,h4⟩
 refine ⟨g,h1,h2,⟨List.replicate 8 (.slice none 0 0),⟨stOf (SCells.new size slide late keys) [] [],⟨_,[],[],⟨h3,Row.nil _ _ _,Row.nil _ _ _,fun k hk=>by simp [SCells.new,Value.ownBlock] at hk,fun x hx=>by simp at hx,List.Pairwise.nil⟩,rfl,rfl,rfl,fun k hk=>?_⟩,?_,?_,rfl,rfl⟩,?_⟩,h4⟩
 . rcases hk with hk | hk | hk | ⟨x,hx,hk⟩
   . exact hk
   . simp [SCells.new,Value.ownBlock] at hk
   . simp [SCells.new,Value.ownBlock] at hk
   . simp at hx
 . obtain ⟨c1,c2,c3,c4,c5,c6,c7,c8⟩:=hc
   exact ⟨⟨c1,c2,c3,c5,c6,c7,c8⟩,List.Pairwise.nil,(by show (0:Int)<=keys;omega),fun r hr=>(by simp [stOf,rsOf] at hr),List.Perm.nil,List.Pairwise.nil,fun r hr=>(by simp [stOf,rsOf] at hr),fun r hr=>(by simp [stOf,rsOf] at hr),fun t ht=>(by cases ht),fun e he=>(by simp [Sp.new] at he)⟩
 . intro s hs
   simp only [Sp.new,List.mem_replicate] at hs
   rw [hs.2];decide
 . refine ⟨rfl,rfl,fun i v l hv hl=>?_⟩
   rw [List.getElem?_replicate] at hv hl
   split at hv
   . cases hv
     split at hl
     . cases hl;exact ⟨Row.nil _ _ _,fun k hk=>by simp [Value.ownBlock] at hk,by simp⟩
     . rename_i a b;exact absurd a b
   . cases hv
end Go.Proofs.YtcfngdnmpogaoaaGreat
namespace Go.Proofs.YtcfngdnmpogaoaaGreat
open Go.RowKit
theorem filter_two {α:Type} (p q r:α->Bool) (l:List α) (h1:∀ x,p x=true->r x=true) (h2:∀ x,q x=true->r x=true) (h3:∀ x,p x=true->q x=false):(l.filter p).length+(l.filter q).length<=(l.filter r).length:=by
 induction l with
 | nil=>exact Nat.le_refl _
 | cons a l ih=>
   rw [List.filter_cons,List.filter_cons,List.filter_cons]
   cases hp:p a with
   | true=>
     rw [h1 a hp,h3 a hp]
     simp only [if_true,Bool.false_eq_true,if_false,List.length_cons];omega
   | false=>
     cases hq:q a with
     | true=>
       rw [h2 a hq]
       simp only [if_true,Bool.false_eq_true,if_false,List.length_cons];omega
     | false=>
       simp only [Bool.false_eq_true,if_false]
       split
       . rw [List.length_cons];omega
       . exact ih
def endB (size slide lt:Int) (li:Bool) (t:Int) (j:Nat):Bool:=li && decide (startAt slide t j+size<=lt)
def cntW (size slide lt:Int) (li:Bool) (e:Ev):Nat:=((List.range (winN size slide e.t)).filter (endB size slide lt li e.t)).length
def cntAll (size slide lt:Int) (li:Bool) (E:List Ev):Nat:=(E.map (cntW size slide lt li)).sum
def finN (size slide was line:Int) (had:Bool) (e:Ev) (n:Nat):Nat:=((List.range n).filter (fun j=>finB size was line had (startAt slide e.t j))).length
theorem evFin_cnt (size slide was line:Int) (had:Bool) (E:List Ev) (e:Ev) (n:Nat) (ws:List Win):(evFin size slide was line had E e n ws).length<=ws.length+finN size slide was line had e n:=by
 induction n with
 | zero=>exact Nat.le_refl _
 | succ n ih=>
   unfold finN at *
   rw [evFin_succ,List.range_succ,List.filter_append,List.length_append]
   cases hb:finB size was line had (startAt slide e.t n) with
   | true=>
     have:=place_len e.key (startAt slide e.t n) (winF e.key (startAt slide e.t n) size E) (evFin size slide was line had E e n ws)
     simp only [if_true,List.filter_cons,hb,List.filter_nil,List.length_cons,List.length_nil]
     omega
   | false=>
     simp only [Bool.false_eq_true,if_false,List.filter_cons,hb,List.filter_nil,List.length_nil]
     omega
theorem finAll_cnt (size slide was line:Int) (had:Bool) (E es:List Ev):(finAll size slide was line had E es).length<=(es.map fun e=>finN size slide was line had e (winN size slide e.t)).sum:=by
 induction es using snoc_ind with
 | nil=>simp [finAll]
 | snoc es e ih=>
   have e1:finAll size slide was line had E (es++[e])=evFin size slide was line had E e (winN size slide e.t) (finAll size slide was line had E es):=by
    unfold finAll;rw [List.foldl_append];rfl
   rw [e1,List.map_append,List.sum_append]
   have:=evFin_cnt size slide was line had E e (winN size slide e.t) (finAll size slide was line had E es)
   simp only [List.map_cons,List.map_nil,List.sum_cons,List.sum_nil]
   omega
theorem cnt_move (size slide was line:Int) (had:Bool) (h:had=true->was<=line) (e:Ev):cntW size slide was had e+finN size slide was line had e (winN size slide e.t)<=cntW size slide line true e:=by
 refine filter_two _ _ _ _ (fun j hj=>?_) (fun j hj=>?_) (fun j hj=>?_)
 . unfold endB at *
   simp only [Bool.and_eq_true,decide_eq_true_eq] at hj ⊢
   have:=h hj.1
   exact ⟨trivial,by omega⟩
 . unfold endB finB at *
   simp only [Bool.and_eq_true,decide_eq_true_eq] at hj ⊢
   exact ⟨trivial,hj.1⟩
 . unfold endB finB at *
   simp only [Bool.and_eq_true,decide_eq_true_eq] at hj
   rw [hj.1]
   have:¬ was < startAt slide e.t j+size:=by omega
   simp [this]
theorem cntAll_move (size slide was line:Int) (had:Bool) (h:had=true->was<=line) (E:List Ev):cntAll size slide was had E+(E.map fun e=>finN size slide was line had e (winN size slide e.t)).sum<=cntAll size slide line true E:=by
 unfold cntAll
 induction E with
 | nil=>simp
 | cons e E ih=>
   have:=cnt_move size slide was line had h e
   simp only [List.map_cons,List.sum_cons];omega
theorem cntAll_le (size slide lt:Int) (li:Bool) (E:List Ev) (h1:1<=slide) (h2:size<=4096*slide):cntAll size slide lt li E<=4097*E.length:=by
 unfold cntAll
 induction E with
 | nil=>simp
 | cons e E ih=>
   have h3:cntW size slide lt li e<=winN size slide e.t:=by
    unfold cntW
    have:=List.length_filter_le (endB size slide lt li e.t) (List.range (winN size slide e.t))
    rw [List.length_range] at this;exact this
   have:=winN_le size slide e.t h1 h2
   simp only [List.map_cons,List.sum_cons,List.length_cons];omega
theorem cntAll_snoc (size slide lt:Int) (li:Bool) (E:List Ev) (e:Ev):cntAll size slide lt li E<=cntAll size slide lt li (E++[e]):=by
 unfold cntAll
 rw [List.map_append,List.sum_append];omega
structure RefRel (c:Cf) (sp:Sp) (rs:List (List UInt8)) (r:RCells) (ds:Nat):Prop where
 size:r.size=c.size
 slide:r.slide=c.slide
 late:r.late=c.late
 keys:r.keys=c.keys
 line:r.line=sp.lt
 lined:r.lined=sp.li
 n:r.n=sp.n
 src:SrcRels c.late sp.src r.src
 rl:rs.length=8
 rest:∀ (i:Nat) t l,r.src[i]?=some t->rs[i]?=some l->t.broken=false->t.rest.data.toList=l
 done:ds<=cntAll c.size c.slide sp.lt sp.li sp.E
 ok:∀ e ∈ sp.E,evOk e
 shut:∀ (i:Nat) s,sp.src[i]?=some s->s.opened=false->s.broken=false/\s.is=false/\rs[i]?=some []
theorem line_line (late:Int) (src:List SrcS) (lt:Int) (li:Bool):lineF late src (lineF late src lt li).1 (lineF late src lt li).2=lineF late src lt li:=by
 unfold lineF
 by_cases h:(leastS src).2=true
 . simp only [h,if_true]
   by_cases h2:li=false\/lt < (leastS src).1 - late
   . rw [if_pos h2,if_neg (by rintro (hh | hh);(cases hh);omega)]
   . rw [if_neg h2,if_neg (fun hh=>by
      rcases hh with hh | hh
      . cases hh
      . exact h2 (.inr hh))]
 . rw [if_neg h,if_neg h]
theorem Sp.line_line (c:Cf) (s:Sp):(s.line c).line c=s.line c:=by
 have:=Proofs.YtcfngdnmpogaoaaGreat.line_line c.late s.src s.lt s.li
 unfold Sp.line
 simp only [this]
theorem modify_at {α:Type} {l:List α} {n:Nat} {s:α} (f:α->α) (hs:l[n]?=some s):(l.modify n f)[n]?=some (f s):=by rw [List.getElem?_modify,hs];simp
theorem modify_ne {α:Type} {l:List α} {n i:Nat} (f:α->α) (h:¬ n=i):(l.modify n f)[i]?=l[i]?:=by rw [List.getElem?_modify];simp [h]
theorem SrcRels.raise {late:Int} {ss:List SrcS} {ts:List RSrc} (h:SrcRels late ss ts) (n:Nat) (s:SrcS) (t:RSrc) (hs:ss[n]?=some s) (ht:ts[n]?=some t) (ho:s.opened=true) (hb:s.broken=false) (x:Int):SrcRels late (ss.modify n (raisedS x)) (ts.set n (rRaise (x - late) t)):=by
 refine ⟨by rw [List.length_modify,List.length_set];exact h.1,fun i a b ha hbb=>?_⟩
 rw [List.getElem?_set] at hbb
 by_cases hi:n=i
 . subst hi
   have hl:n < ts.length:=(List.getElem?_eq_some_iff.1 ht).1
   rw [if_pos rfl,if_pos hl] at hbb
   rw [modify_at _ hs] at ha
   simp only [Option.some.injEq] at ha hbb
   subst ha;subst hbb
   have hr:=h.2 n s t hs ht
   obtain ⟨r1,r2⟩:=hr.re ho hb
   have hc:(t.reached=false\/t.reach < x - late) ↔ (s.is=false\/s.time < x):=by
    rw [r1]
    cases hi:s.is with
    | false=>simp
    | true=>rw [r2 hi];simp
   unfold raisedS rRaise
   by_cases hy:s.is=false\/s.time < x
   . rw [if_pos hy,if_pos (hc.2 hy)]
     exact ⟨hr.op,hr.br,fun hh=>by rcases hh with hh | hh;(simp only [ho] at hh;cases hh);(simp only [hb] at hh;cases hh),fun _ _=>⟨rfl,fun _=>rfl⟩⟩
   . rw [if_neg hy,if_neg (fun hh=>hy (hc.1 hh))]
     exact hr
 . rw [modify_ne _ hi] at ha
   rw [if_neg hi] at hbb
   exact h.2 i a b ha hbb
def heft (sp:Sp) (rs:List (List UInt8)):Nat:=26*sp.E.length+(rs.map List.length).sum
theorem sum_set (rs:List (List UInt8)) (n:Nat) (l x:List UInt8) (h:rs[n]?=some l):((rs.set n x).map List.length).sum+l.length=(rs.map List.length).sum+x.length:=by
 induction rs generalizing n with
 | nil=>simp at h
 | cons a rs ih=>
   cases n with
   | zero=>
     simp only [List.getElem?_cons_zero,Option.some.injEq] at h
     subst h
     simp only [List.set_cons_zero,List.map_cons,List.sum_cons];omega
   | succ n=>
     have:=ih n (by simpa using h)
     simp only [List.set_cons_succ,List.map_cons,List.sum_cons];omega
theorem feedF_heft (c:Cf) (n:Nat) (f:Nat) (sp:Sp) (L:List UInt8):26*(feedF c n f sp L).1.E.length+(feedF c n f sp L).2.length<=26*sp.E.length+L.length:=by
 induction f generalizing sp L with
 | zero=>exact Nat.le_refl _
 | succ f ih=>
   rw [feedF]
   cases hs:unfShort L with
   | true=>exact Nat.le_refl _
   | false=>
     cases ho:unfOk L with
     | false=>
       simp only [Bool.false_eq_true,if_false,List.length_nil]
       show 26*sp.E.length+0<=_
       omega
     | true=>
       simp only [Bool.false_eq_true,if_false,if_true]
       refine Nat.le_trans (ih _ _) ?_
       have hlen:(L.getD 0 0).toNat+3<=L.length:=by
        unfold unfShort at hs
        simp only [decide_eq_false_iff_not] at hs;omega
       have hb:itemOfB (unfBody L)=true:=by unfold unfOk at ho;simp at ho;exact ho.2
       have hbl:(unfBody L).length=(L.getD 0 0).toNat:=by
        unfold unfBody;rw [List.length_take,List.length_drop];omega
       rw [List.length_drop]
       unfold itemF
       by_cases h1:(unfBody L).getD 0 0=1
       . rw [if_pos h1,line_E]
         have he:isEvent (unfBody L)=true:=by rw [itemOfB,if_pos h1] at hb;exact hb
         unfold isEvent at he
         simp only [Bool.and_eq_true,decide_eq_true_eq] at he
         have:=event0_len c sp n (evOf (unfBody L))
         omega
       . rw [if_neg h1,line_E,mark0_E];omega
end Go.Proofs.YtcfngdnmpogaoaaGreat
