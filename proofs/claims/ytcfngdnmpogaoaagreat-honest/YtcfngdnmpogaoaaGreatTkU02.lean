import Derived.Test.YtcfngdnmpogaoaaGreatTkT10
import Derived.Test.YtcfngdnmpogaoaaGreatTkT11
import Derived.StillTailTactics
import Derived.Test.YtcfngdnmpogaoaaGreatTkT09
import Derived.Test.YtcfngdnmpogaoaaGreatTkU01
namespace Go.Proofs.YtcfngdnmpogaoaaGreat
open Go.RowKit Go.MuLone
set_option maxHeartbeats 1600000
set_option maxRecDepth 20000
theorem pop_last (S so g o c n:Nat) (cs:Array Value) (T:TypeId) (a b:Int) (w:World) (hS:w.heap[S]?=some (.cells cs T (0,0))) (hs:cs[so]?=some (.slice (some ⟨g,o,none⟩) (n+1) c)) (hc:n+1<=c) (hn:n+1<=1000000000)
 (h0:w.cell? ⟨g,o+n*4,none⟩=some (.int .i64 a)) (h1:w.cell? ⟨g,o+n*4+1,none⟩=some (.int .i64 b)) :
 Calls Tryz.prog 212 #[.pointer (some ⟨S,so,none⟩)] w fun e w'=>e=.returned (.agg #[.int .i64 a,.int .i64 b]) /\
  w'.heap[S]?=some (.cells (cs.setIfInBounds so (.slice (some ⟨g,o,none⟩) n c)) T (0,0))/\Kept (fun k=>k=S) w w':=by
 have hSs:=blkLt hS
 have hgs:=World.block_lt_of_cell? w ⟨g,o+n*4,none⟩ h0
 have q0:=blkCell hS hs
 have e1:((n+1:Nat):Int) - 1=(n:Int):=by omega
 have e2:(n:Int)+1 - 1=(n:Int):=by omega
 have e5:(n:Int) < ((n+1:Nat):Int):=by omega
 have e6:(n:Int) < (n:Int)+1:=by omega
 have e7:(n:Int)<=(c:Int):=by omega
 have e8:n<=c:=by omega
 go_enter Tryz.func212,Tryz.ntmps212
 go_upto_region 1 with fail
 have hr1:=heap_alloc_new w (.cells #[.int .i64 0,.int .i64 0] 204)
 have B1:Below w.heap.size w (w.alloc (.cells #[.int .i64 0,.int .i64 0] 204)):=(Below.refl _ w).alloc (Nat.le_refl _) _
 have hS1:=blkBelow hS B1
 have k0:=(B1.cell hgs).trans h0
 have k1:=(B1.cell (p:=⟨g,o+n*4+1,none⟩) hgs).trans h1
 have K1:Hid (Kept (fun k=>k=S) w (w.alloc (.cells #[.int .i64 0,.int .i64 0] 204))):=Kept.ofBelow B1 _
 have hRS:w.heap.size ≠ S:=by omega
 generalize w.alloc (.cells #[.int .i64 0,.int .i64 0] 204)=W1 at *
 obtain ⟨R,HR⟩:∃ R,Hid (w.heap.size=R):=⟨_,rfl⟩
 rw [HR.out] at hr1 hRS ⊢
 clear hS h0 h1 B1 q0
 have q1:=blkCell hS1 hs
 go_upto_region 3 with fail
 have hx2:=heap_alloc_new W1 (.cells #[.int .i64 a,.int .i64 b] 204)
 have hr2:=blkAlloc hr1 (.cells #[.int .i64 a,.int .i64 b] 204)
 have hS2:=blkAlloc hS1 (.cells #[.int .i64 a,.int .i64 b] 204)
 have K2:Hid (Kept (fun k=>k=S) w (W1.alloc (.cells #[.int .i64 a,.int .i64 b] 204))):=K1.out.alloc _
 have hXS:W1.heap.size ≠ S:=by have:=blkLt hS1;omega
 have hXR:W1.heap.size ≠ R:=by have:=blkLt hr1;omega
 generalize W1.alloc (.cells #[.int .i64 a,.int .i64 b] 204)=W2 at *
 generalize W1.heap.size=X at *
 clear q1 hS1 hr1 k0 k1 K1
 have q2:=blkCell hS2 hs
 have f2:=blkFrozen hS2 so
 go_upto_region 4 with fail
 have hx3:=blkOther hx2 S so (.slice (some ⟨g,o,none⟩) n c) hXS
 have hr3:=blkOther hr2 S so (.slice (some ⟨g,o,none⟩) n c) hRS
 have hS3:=blkPut hS2 so (.slice (some ⟨g,o,none⟩) n c)
 have K3:Hid (Kept (fun k=>k=S) w (W2.setCell ⟨S,so,none⟩ (.slice (some ⟨g,o,none⟩) n c))):=K2.out.setCell ⟨S,so,none⟩ _ (fun _=>rfl)
 clear q2 f2 K2 hx2 hr2 hS2
 generalize W2.setCell ⟨S,so,none⟩ (.slice (some ⟨g,o,none⟩) n c)=W3 at *
 obtain ⟨x0,x1,-,-⟩:=cells2At hx3
 obtain ⟨r0,r1,rf,-⟩:=cells2At hr3
 go_wp2
 have hr4:=cells2Put (u:=.int .i64 a) (v:=.int .i64 b) hr3
 have hS4:=blkOther (blkOther hS3 R 0 (.int .i64 a) hRS.symm) R 1 (.int .i64 b) hRS.symm
 have K4:=(K3.out.setCell ⟨R,0,none⟩ (.int .i64 a) (by show R < w.heap.size->R=S;rw [HR.out];intro h;omega)).setCell ⟨R,1,none⟩ (.int .i64 b) (by show R < w.heap.size->R=S;rw [HR.out];intro h;omega)
 clear x0 x1 r0 r1 rf
 generalize (W3.setCell ⟨R,0,none⟩ (.int .i64 a)).setCell ⟨R,1,none⟩ (.int .i64 b)=W4 at *
 obtain ⟨y0,y1,-,-⟩:=cells2At hr4
 exact bodyPost_ret (v:=.agg #[.int .i64 a,.int .i64 b]) (by simp [results,Tryz.results212,go_sem,y0,y1]) rfl ⟨rfl,hS4,K4⟩
theorem rowFront {w:World} {e:TypeId} {sz g off n cap:Nat} {xs:List Value} (h:Row w e sz (.slice (some ⟨g,off,none⟩) n cap) xs) (m:Nat) (hm:m<=n):Row w e sz (.slice (some ⟨g,off,none⟩) m cap) (xs.take (m*sz)):=by
 rcases h with ⟨h1,_⟩ | ⟨ge,o,k,c,cur,h1,hg,h3,h4,h5,h6,h7⟩
 . cases h1
 . cases h1
   have hms:m*sz<=n*sz:=Nat.mul_le_mul hm (Nat.le_refl _)
   refine .inr ⟨g,off,m,cap,cur,rfl,hg,by omega,h4,h5,by rw [List.length_take];omega,fun j hj=>?_⟩
   rw [List.getElem?_take,if_pos hj]
   exact h7 j (by omega)
theorem Row.capLe {w:World} {e:TypeId} {sz g off n cap:Nat} {xs:List Value} (h:Row w e sz (.slice (some ⟨g,off,Option.none⟩) n cap) xs):n<=cap:=by
 rcases h with ⟨h1,_⟩ | ⟨ge,o,k,c,cur,h1,hg,h3,h4,h5,h6,h7⟩
 . cases h1
 . cases h1;exact h3
theorem pop_any (S so:Nat) (cs:Array Value) (T:TypeId) (ys:List (Int × Int)) (x:Int × Int) (sv:Value) (w:World) (hS:w.heap[S]?=some (.cells cs T (0,0))) (hs:cs[so]?=some sv) (hr:Row w 261 4 sv (levels (ys++[x]))) (hl:ys.length+1<=1000000000) (hTl:T ≠ 261) :
 Calls Tryz.prog 212 #[.pointer (some ⟨S,so,none⟩)] w fun e w'=>e=.returned (.agg #[.int .i64 x.1,.int .i64 x.2]) /\
  ∃ v,w'.heap[S]?=some (.cells (cs.setIfInBounds so v) T (0,0))/\Row w' 261 4 v (levels ys)/\v.ownBlock=sv.ownBlock/\Kept (fun k=>k=S) w w':=by
 obtain ⟨a,c,hv,-⟩:=hr.len (by decide)
 have hlen:(ys++[x]).length=ys.length+1:=by simp
 rw [levels_length,Nat.mul_div_cancel _ (by omega),hlen] at hv
 subst hv
 obtain ⟨g,o,rfl⟩:=slice_some hr (by omega)
 obtain ⟨-,-,l0,l1⟩:=levels_at ys x
 have c0:=hr.cell (ys.length*4) (by omega)
 have c1:=hr.cell (ys.length*4+1) (by omega)
 rw [l0] at c0
 rw [l1] at c1
 refine (pop_last S so g o c ys.length cs T x.1 x.2 w hS hs hr.capLe hl c0 (by rw [Nat.add_assoc];exact c1)).mono ?_
 rintro e w' ⟨rfl,h1,h2⟩
 refine ⟨rfl,_,h1,?_,rfl,h2⟩
 have hf:=rowFront hr ys.length (by omega)
 rw [levels_snoc,List.take_append_of_le_length (by rw [levels_length];exact Nat.le_refl _),List.take_of_length_le (by rw [levels_length];exact Nat.le_refl _)] at hf
 exact hf.kept h2 (fun k hk e=>hr.ne_block hS (fun e=>hTl e.symm) (by rw [<- e];exact hk))
end Go.Proofs.YtcfngdnmpogaoaaGreat
namespace Go.Proofs.YtcfngdnmpogaoaaGreat
open Go.RowKit Go.MuLone
set_option maxHeartbeats 3200000
set_option maxRecDepth 20000
theorem push_any (S so:Nat) (cs:Array Value) (T:TypeId) (xs:List (Int × Int)) (x:Int × Int) (sv:Value) (w:World) (hS:w.heap[S]?=some (.cells cs T (0,0))) (hs:cs[so]?=some sv) (hr:Row w 261 4 sv (levels xs)) (hl:xs.length<=1000000000) (hTl:T ≠ 261) :
 Calls Tryz.prog 211 #[.pointer (some ⟨S,so,none⟩),.agg #[.int .i64 x.1,.int .i64 x.2]] w fun e w'=>e=.returned (.tuple #[]) /\
  ∃ v,w'.heap[S]?=some (.cells (cs.setIfInBounds so v) T (0,0))/\(∀ g,v.ownBlock=some g->sv.ownBlock=some g\/w.heap.size<=g)/\Row w' 261 4 v (levels (xs++[x]))/\Kept (fun k=>k=S\/sv.ownBlock=some k) w w':=by
 obtain ⟨a,c,hv,-⟩:=hr.len (by decide)
 subst hv
 have:=push_of S so cs T x.1 x.2 (runS xs).1 (runS xs).2 (runS (xs++[x])).1 (runS (xs++[x])).2 a _ c (levels xs) w hS hs hr (by rw [levels_length];omega) hTl (fun W hW=>whole_any xs _ W hW hl) (fun W=>by rw [runS_snoc];exact joined_any _ _ _ _ W)
 rw [levels_snoc]
 exact this
theorem bounds_enter_any (Bd P M:Nat) (p:Pane) (cv gv:Value) (cm:List (Int × Int)) (w:World) (hB:w.heap[Bd]?=some (.cells #[cv,gv] 240 (0,0))) (hr:Row w 261 4 cv (levels cm)) (hp:PaneAt w P M p) (hl:cm.length<=1000000000) :
 Calls Tryz.prog 209 #[.pointer (some ⟨Bd,0,none⟩),.pointer (some ⟨P,0,none⟩)] w fun e w'=>e=.returned (.tuple #[])/\∃ v,w'.heap[Bd]?=some (.cells #[v,gv] 240 (0,0))/\(∀ g,v.ownBlock=some g->cv.ownBlock=some g\/w.heap.size<=g)/\Row w' 261 4 v (levels (cm++[p.span]))/\Kept (fun k=>k=Bd\/cv.ownBlock=some k) w w':=by
 have hpp:=hp.pane
 have HP:Hid (Calls Tryz.prog 211 #[.pointer (some ⟨Bd,0,none⟩),.agg #[.int .i64 (loV p.evs),.int .i64 (hiV p.evs)]] w.drew fun e w'=>e=.returned (.tuple #[]) /\
  ∃ v,w'.heap[Bd]?=some (.cells (#[cv,gv].setIfInBounds 0 v) 240 (0,0))/\(∀ g,v.ownBlock=some g->cv.ownBlock=some g\/w.drew.heap.size<=g)/\Row w' 261 4 v (levels (cm++[p.span]))/\Kept (fun k=>k=Bd\/cv.ownBlock=some k) w.drew w'):=
  push_any Bd 0 #[cv,gv] 240 cm p.span cv w.drew hB rfl (hr.below (Below.refl _ w).drew (fun k hk=>(hr.blk_lt hk).1)) hl (by decide)
 obtain ⟨lo,hlo⟩:∃ z,loV p.evs=z:=⟨_,rfl⟩
 obtain ⟨hi,hhi⟩:∃ z,hiV p.evs=z:=⟨_,rfl⟩
 rw [hlo,hhi] at hpp HP
 clear hp hr hB
 go_enter Tryz.func209,Tryz.ntmps209
 go_upto_region 0 with fail
 refine wp_region_still_tail 7 (by kernel_rfl) (by kernel_rfl) ?_
 simp only [List.take_succ_cons,List.take_zero,List.drop_succ_cons,List.drop_zero]
 change wpStill Tryz.prog _ w.drew (fun a'=>wpList Tryz.prog _ _ _ a' w.drew) _ _
 have hp1:w.drew.heap[P]?=some (.cells (paneCells p.first p.last (cntV p.evs) (sumV p.evs) lo hi M) 207 (0,0)):=hpp
 have K1:Hid (Kept (fun k=>k=Bd\/cv.ownBlock=some k) w w.drew):=(Kept.refl _ w).drew
 have hs1:Hid (w.drew.heap.size=w.heap.size):=rfl
 clear hpp
 generalize w.drew=W1 at *
 obtain ⟨-,-,-,-,c4,c5,-,-⟩:=paneAt hp1
 repeat still_step
 refine wpStill_nil ?_
 go_wp2_with fail
 refine HP.out.mono ?_
 rintro e w2 ⟨rfl,v,h1,h2,h3,h4⟩
 have H1:=hid h1
 have H2:Hid (∀ g,v.ownBlock=some g->cv.ownBlock=some g\/w.heap.size<=g):=fun g hg=>by rw [<- hs1.out];exact h2 g hg
 have H3:=hid h3
 have H4:=hid (K1.out.trans h4)
 clear h1 h2 h3 h4
 go_wp2
 go_end0
 exact ⟨rfl,v,H1.out,H2.out,H3.out,H4.out⟩
theorem bounds_whole_any (Bd:Nat) (cv gv:Value) (cm gg:List (Int × Int)) (w:World) (hB:w.heap[Bd]?=some (.cells #[cv,gv] 240 (0,0))) (hc:Row w 261 4 cv (levels cm)) (hg:Row w 261 4 gv (levels gg)) (hl1:cm.length<=1000000000) (hl2:gg.length<=1000000000) :
 Calls Tryz.prog 128 #[.pointer (some ⟨Bd,0,none⟩)] w fun e w'=>e=.returned (.agg #[.int .i64 (joinS (runS cm) (runS gg)).1,.int .i64 (joinS (runS cm) (runS gg)).2])/\Below w.heap.size w w':=by
 have hBs:=blkLt hB
 have WC:Hid (∀ W,Below w.heap.size w W->Calls Tryz.prog 150 #[cv] W fun e w'=>e=.returned (.agg #[.int .i64 (runS cm).1,.int .i64 (runS cm).2])/\Below W.heap.size W w'):=fun W hW=>whole_any cm cv W (hc.below hW (fun k hk=>(hc.blk_lt hk).1)) hl1
 have WG:Hid (∀ W,Below w.heap.size w W->Calls Tryz.prog 150 #[gv] W fun e w'=>e=.returned (.agg #[.int .i64 (runS gg).1,.int .i64 (runS gg).2])/\Below W.heap.size W w'):=fun W hW=>whole_any gg gv W (hg.below hW (fun k hk=>(hg.blk_lt hk).1)) hl2
 have jn:∀ W:World,Calls Tryz.prog 151 #[.agg #[.int .i64 (runS cm).1,.int .i64 (runS cm).2],.agg #[.int .i64 (runS gg).1,.int .i64 (runS gg).2]] W fun e w'=>e=.returned (.agg #[.int .i64 (joinS (runS cm) (runS gg)).1,.int .i64 (joinS (runS cm) (runS gg)).2])/\Below W.heap.size W w':=fun W=>joined_any _ _ _ _ W
 obtain ⟨ca,cn,cc,hcv⟩:∃ a n c,cv=.slice a n c:=by obtain ⟨a,c,h,-⟩:=hc.len (by decide);exact ⟨a,_,c,h⟩
 obtain ⟨ga,gn,gc,hgv⟩:∃ a n c,gv=.slice a n c:=by obtain ⟨a,c,h,-⟩:=hg.len (by decide);exact ⟨a,_,c,h⟩
 subst hcv hgv
 generalize (joinS (runS cm) (runS gg)).1=X at *
 generalize (joinS (runS cm) (runS gg)).2=Y at *
 generalize (runS cm).1=a1 at *
 generalize (runS cm).2=a2 at *
 generalize (runS gg).1=b1 at *
 generalize (runS gg).2=b2 at *
 clear hc hg
 go_enter Tryz.func128,Tryz.ntmps128
 go_upto_region 1 with fail
 have hr1:=heap_alloc_new w (.cells #[.int .i64 0,.int .i64 0] 204)
 have B1:Below w.heap.size w (w.alloc (.cells #[.int .i64 0,.int .i64 0] 204)):=(Below.refl _ w).alloc (Nat.le_refl _) _
 have hB1:=blkBelow hB B1
 have hB1':=hid B1
 have hRs:=blkLt hr1
 have hBs1:=blkLt hB1
 generalize w.alloc (.cells #[.int .i64 0,.int .i64 0] 204)=W1 at *
 obtain ⟨b0',b1',-,-⟩:=cells2At hB1
 obtain ⟨r0,r1,rf,-⟩:=cells2At hr1
 obtain ⟨R,HR⟩:∃ R,Hid (w.heap.size=R):=⟨_,rfl⟩
 have hBel:Hid (Below R w W1.drew):=by show Below R w W1.drew;rw [<- HR.out];exact hB1'.out.drew
 rw [HR.out] at hr1 r0 r1 rf hRs WC WG ⊢
 have hBR:Bd ≠ R:=by rw [<- HR.out];omega
 have hRB:=Ne.symm hBR
 clear B1 hB1' hB hBs
 go_region_held3 (fun W=>W.cell? ⟨Bd,0,none⟩=some (.slice ca cn cc)/\W.cell? ⟨Bd,1,none⟩=some (.slice ga gn gc)) (go_keep) (first
  | (go_at_call 150;refine (WC.out _ hBel.out).mono ?_;rintro e w2 ⟨rfl,hb2⟩;have HWC:=WC;clear WC;have z2:W1.heap.size<=w2.heap.size:=hb2.size;have u2:w2.cell? ⟨Bd,0,none⟩=some (.slice ca cn cc):=(hb2.cell (p:=⟨Bd,0,none⟩) hBs1).trans b0';have v2:w2.cell? ⟨Bd,1,none⟩=some (.slice ga gn gc):=(hb2.cell (p:=⟨Bd,1,none⟩) hBs1).trans b1';have n2:Hid (w2.heap[R]?=some (.cells #[.int .i64 0,.int .i64 0] 204 (0,0))):=(hb2.block R hRs).trans hr1;have l2:Hid (Below R w w2):=hBel.out.trans (hb2.mono (Nat.le_of_lt hRs)))
  | (go_at_call 150;refine (WG.out _ l2.out).mono ?_;rintro e w3 ⟨rfl,hb3⟩;have z3:W1.heap.size<=w3.heap.size:=Nat.le_trans z2 hb3.size;have u3:w3.cell? ⟨Bd,0,none⟩=some (.slice ca cn cc):=(hb3.cell (p:=⟨Bd,0,none⟩) (Nat.lt_of_lt_of_le hBs1 z2)).trans u2;have v3:w3.cell? ⟨Bd,1,none⟩=some (.slice ga gn gc):=(hb3.cell (p:=⟨Bd,1,none⟩) (Nat.lt_of_lt_of_le hBs1 z2)).trans v2;have n3:Hid (w3.heap[R]?=some (.cells #[.int .i64 0,.int .i64 0] 204 (0,0))):=(hb3.block R (Nat.lt_of_lt_of_le hRs z2)).trans n2.out;have l3:Hid (Below R w w3):=l2.out.trans (hb3.mono (Nat.le_of_lt (Nat.lt_of_lt_of_le hRs z2))))
  | (go_at_call 151;refine (jn _).mono ?_;rintro e w4 ⟨rfl,hb4⟩;have u4:w4.cell? ⟨Bd,0,none⟩=some (.slice ca cn cc):=(hb4.cell (p:=⟨Bd,0,none⟩) (Nat.lt_of_lt_of_le hBs1 z3)).trans u3;have v4:w4.cell? ⟨Bd,1,none⟩=some (.slice ga gn gc):=(hb4.cell (p:=⟨Bd,1,none⟩) (Nat.lt_of_lt_of_le hBs1 z3)).trans v3;have n4:w4.heap[R]?=some (.cells #[.int .i64 0,.int .i64 0] 204 (0,0)):=(hb4.block R (Nat.lt_of_lt_of_le hRs z3)).trans n3.out;have l4:Hid (Below R w w4):=l3.out.trans (hb4.mono (Nat.le_of_lt (Nat.lt_of_lt_of_le hRs z3)));obtain ⟨r40,r41,r4f,-⟩:=cells2At n4))
 all_goals
  have n5:=cells2Put (u:=.int .i64 X) (v:=.int .i64 Y) n4
  have l5:=(l4.out.setCell (p:=⟨R,0,none⟩) (Nat.le_refl _) (.int .i64 X)).setCell (p:=⟨R,1,none⟩) (Nat.le_refl _) (.int .i64 Y)
  clear r40 r41 r4f
  generalize (w4.setCell ⟨R,0,none⟩ (.int .i64 X)).setCell ⟨R,1,none⟩ (.int .i64 Y)=W5 at *
  obtain ⟨y0,y1,-,-⟩:=cells2At n5
  go_wp2
  exact bodyPost_ret (v:=.agg #[.int .i64 X,.int .i64 Y]) (by simp [results,Tryz.results128,go_sem,y0,y1]) rfl ⟨rfl,by rw [HR.out];exact l5⟩
end Go.Proofs.YtcfngdnmpogaoaaGreat
namespace Go.Proofs.YtcfngdnmpogaoaaGreat
open Go.RowKit Go.MuLone
set_option maxHeartbeats 6400000
set_option maxRecDepth 20000
theorem enterPopA:∀ (vs:Array Value) (w:World),(callFunc 212 vs).run Tryz.prog w=.ok (.enter 212 vs) w:=enters_of Tryz.func212 (by kernel_rfl) rfl
theorem enterPushA:∀ (vs:Array Value) (w:World),(callFunc 211 vs).run Tryz.prog w=.ok (.enter 211 vs) w:=enters_of Tryz.func211 (by kernel_rfl) rfl
def lenAt (Bd:Nat) (w:World):Nat:=match w.cell? ⟨Bd,0,none⟩ with
 | some (.slice _ n _)=>n
 | _=>0
structure LvB (w wr:World) (Bd:Nat) (cv0 gv0:Value) (cm:List (Int × Int)) (cv gv:Value) (c1 g1:List (Int × Int)):Prop where
 blk:wr.heap[Bd]?=some (.cells #[cv,gv] 240 (0,0))
 rc:Row wr 261 4 cv (levels c1)
 rg:Row wr 261 4 gv (levels g1)
 eq:c1++g1.reverse=cm
 oc:cv.ownBlock=cv0.ownBlock
 og:∀ k,gv.ownBlock=some k->gv0.ownBlock=some k\/w.heap.size<=k
 ap:∀ k,cv.ownBlock=some k->gv.ownBlock ≠ some k
 kept:Kept (fun k=>k=Bd\/gv0.ownBlock=some k) w wr
theorem LvB.len {w wr:World} {Bd:Nat} {cv0 gv0:Value} {cm:List (Int × Int)} {cv gv:Value} {c1 g1:List (Int × Int)} (h:LvB w wr Bd cv0 gv0 cm cv gv c1 g1):lenAt Bd wr=c1.length:=by
 obtain ⟨a,c,hv,-⟩:=h.rc.len (by decide)
 rw [levels_length,Nat.mul_div_cancel _ (by omega)] at hv
 obtain ⟨b0,-,-,-⟩:=cells2At h.blk
 unfold lenAt
 rw [b0,hv]
theorem LvB.over {w wr w2 w3:World} {Bd:Nat} {cv0 gv0:Value} {cm:List (Int × Int)} {cv gv v2 v3:Value} {ys g1:List (Int × Int)} {x:Int × Int} (h:LvB w wr Bd cv0 gv0 cm cv gv (ys++[x]) g1) (hcv:∀ k,cv0.ownBlock=some k->k < w.heap.size)
 (hr2:Row w2 261 4 v2 (levels ys)) (ho2:v2.ownBlock=cv.ownBlock) (hk2:Kept (fun k=>k=Bd) wr w2)
 (hb3:w3.heap[Bd]?=some (.cells #[v2,v3] 240 (0,0))) (ho3:∀ g,v3.ownBlock=some g->gv.ownBlock=some g\/w2.heap.size<=g) (hr3:Row w3 261 4 v3 (levels (g1++[x]))) (hk3:Kept (fun k=>k=Bd\/gv.ownBlock=some k) w2 w3) :
 LvB w w3 Bd cv0 gv0 cm v2 v3 ys (g1++[x]):=by
 have s1:=h.kept.size
 have s2:=hk2.size
 refine ⟨hb3,hr2.kept hk3 (fun k hk hh=>?_),hr3,?_,ho2.trans h.oc,fun k hk=>?_,fun k hk hh=>?_,?_⟩
 . rcases hh with rfl | hh
   . exact h.rc.ne_block h.blk (by decide) (by rw [<- ho2];exact hk)
   . exact h.ap k (by rw [<- ho2];exact hk) hh
 . rw [<- h.eq,List.reverse_append,List.append_assoc];rfl
 . rcases ho3 k hk with hh | hh
   . exact h.og k hh
   . exact .inr (by omega)
 . rcases ho3 k hh with h3 | h3
   . exact h.ap k (by rw [<- ho2];exact hk) h3
   . have:=hcv k (by rw [<- h.oc,<- ho2];exact hk)
     omega
 . refine (h.kept.step hk2 (fun k _ hh=>.inl hh)).step hk3 (fun k hk hh=>?_)
   rcases hh with hh | hh
   . exact .inl hh
   . rcases h.og k hh with h4 | h4
     . exact .inr h4
     . omega
theorem bounds_leave_any (Bd:Nat) (pv cv gv:Value) (cm gg rest:List (Int × Int)) (s:Int × Int) (w:World) (hB:w.heap[Bd]?=some (.cells #[cv,gv] 240 (0,0))) (hc:Row w 261 4 cv (levels cm)) (hg:Row w 261 4 gv (levels gg)) (hap:∀ k,cv.ownBlock=some k->gv.ownBlock ≠ some k) (he:gg.reverse++cm=s :: rest) (hl:cm.length+gg.length<=900000000) :
 Calls Tryz.prog 210 #[.pointer (some ⟨Bd,0,none⟩),pv] w fun e w'=>e=.returned (.tuple #[])/\∃ cv' gv' cm' gg',w'.heap[Bd]?=some (.cells #[cv',gv'] 240 (0,0))/\Row w' 261 4 cv' (levels cm')/\Row w' 261 4 gv' (levels gg')/\gg'.reverse++cm'=rest/\cv'.ownBlock=cv.ownBlock/\(∀ k,gv'.ownBlock=some k->gv.ownBlock=some k\/w.heap.size<=k)/\(∀ k,cv'.ownBlock=some k->gv'.ownBlock ≠ some k)/\Kept (fun k=>k=Bd\/gv.ownBlock=some k) w w':=by
 obtain ⟨b0,b1,-,-⟩:=cells2At hB
 have hcvl:∀ k,cv.ownBlock=some k->k < w.heap.size:=fun k hk=>(hc.blk_lt hk).1
 rcases List.eq_nil_or_concat gg with rfl | ⟨zs,z,hgz⟩
 . -- all goes over first
   have HS:Hid (LvB w w Bd cv gv cm cv gv cm []):=⟨hB,hc,hg,by simp,rfl,fun k hk=>.inl hk,hap,Kept.refl _ w⟩
   have Hcvl:=hid hcvl
   have hcm:cm=s :: rest:=by simpa using he
   obtain ⟨ga,gc,hgv,-⟩:=hg.len (by decide)
   have hgv:gv=.slice ga 0 gc:=hgv
   have HGv:=hid hgv
   rw [hgv] at b1
   clear hB hc hg hap hcvl hgv
   go_enter Tryz.func210,Tryz.ntmps210
   go_upto_region 1 with fail
   clear b0 b1
   go_loopw [10] (fun _ wr=>∃ cv1 gv1 c1 g1,LvB w wr Bd cv gv cm cv1 gv1 c1 g1) (fun _ wr=>lenAt Bd wr)
   case atStart=>exact ⟨_,_,_,_,HS.out⟩
   case round=>
    obtain ⟨cv1,gv1,c1,g1,hL⟩:=hrel
    have HL:=hid hL
    have hlens:c1.length+g1.length<=900000000:=by
     have:=congrArg List.length hL.eq
     rw [List.length_append,List.length_reverse] at this
     simp only [List.length_nil] at hl
     omega
    obtain ⟨a0,a1,-,-⟩:=cells2At hL.blk
    obtain ⟨ca,cc,hcv1,-⟩:=hL.rc.len (by decide)
    rw [levels_length,Nat.mul_div_cancel _ (by omega)] at hcv1
    obtain ⟨ga1,gc1,hgv1,-⟩:=hL.rg.len (by decide)
    subst hcv1 hgv1
    clear hL
    rcases List.eq_nil_or_concat c1 with rfl | ⟨ys,x,hyx⟩
    . -- nothing is left
      have hg1:g1=rest.reverse++[s]:=by
       have h1:=HL.out.eq
       rw [List.nil_append,hcm] at h1
       have h2:=congrArg List.reverse h1
       rw [List.reverse_reverse,List.reverse_cons] at h2
       exact h2
      subst hg1
      have HP:Hid (Calls Tryz.prog 212 #[.pointer (some ⟨Bd,1,none⟩)] wr fun e w'=>e=.returned (.agg #[.int .i64 s.1,.int .i64 s.2])/\∃ v,w'.heap[Bd]?=some (.cells (#[Value.slice ca ([]:List (Int × Int)).length cc,.slice ga1 ((levels (rest.reverse++[s])).length / 4) gc1].setIfInBounds 1 v) 240 (0,0))/\Row w' 261 4 v (levels rest.reverse)/\v.ownBlock=(Value.slice ga1 ((levels (rest.reverse++[s])).length / 4) gc1).ownBlock/\Kept (fun k=>k=Bd) wr w'):=
       pop_any Bd 1 _ 240 rest.reverse s _ wr HL.out.blk rfl HL.out.rg (by simp at hlens ⊢;omega) (by decide)
      have a0':wr.cell? ⟨Bd,0,none⟩=some (.slice ca 0 cc):=a0
      clear a0
      go_upto_region 3 with fail
      go_wp2_with fail
      refine HP.out.mono ?_
      rintro e w4 ⟨rfl,v,h1,h2,h3,h4⟩
      have H1:=hid h1
      have H2:=hid h2
      have H3:=hid h3
      have H4:=hid h4
      clear h1 h2 h3 h4
      go_wp2
      go_end0
      refine ⟨rfl,_,v,[],rest.reverse,H1.out,HL.out.rc.kept H4.out (fun k hk e=>?_),H2.out,by simp,HL.out.oc,fun k hk=>HL.out.og k (by rw [<- H3.out];exact hk),fun k hk hh=>HL.out.ap k hk (by rw [<- H3.out];exact hh),HL.out.kept.step H4.out (fun k _ e=>.inl e)⟩
      subst e;exact HL.out.rc.ne_block HL.out.blk (by decide) hk
    . rw [List.concat_eq_append] at hyx
      subst hyx
      have hlen:(ys++[x]).length=ys.length+1:=by simp
      rw [hlen] at hlens
      have hpos:(0:Int) < ((ys++[x]).length:Int):=by omega
      have hpos2:0 < (ys++[x]).length:=by omega
      go_upto_region 2 with fail
      have hBd:=HL.out.blk
      have hrcd:Row wr.drew 261 4 (.slice ca (ys++[x]).length cc) (levels (ys++[x])):=HL.out.rc.below (Below.refl _ wr).drew (fun k hk=>(HL.out.rc.blk_lt hk).1)
      have hrgd:Row wr.drew 261 4 (.slice ga1 ((levels g1).length / 4) gc1) (levels g1):=HL.out.rg.below (Below.refl _ wr).drew (fun k hk=>(HL.out.rg.blk_lt hk).1)
      have HGn:Hid (∀ k,(Value.slice ga1 ((levels g1).length / 4) gc1).ownBlock=some k->¬ k=Bd):=fun k hk e=>by subst e;exact HL.out.rg.ne_block HL.out.blk (by decide) hk
      go_region_law (first
       | (refine step_call1 rfl 212 _ _ rfl enterPopA (.pointer (some ⟨Bd,0,none⟩)) rfl _ (pop_any Bd 0 _ _ ys x _ wr.drew hBd rfl hrcd (by omega) (by decide)) ?_;rintro e w2 ⟨rfl,v2,hb2,hr2,ho2,hk2⟩;refine ⟨_,rfl,?_⟩;have hrg2:Row w2 261 4 (.slice ga1 ((levels g1).length / 4) gc1) (levels g1):=hrgd.kept hk2 (fun k hk e=>HGn.out k hk e))
       | (refine step_call2 rfl 211 _ _ _ rfl enterPushA (.pointer (some ⟨Bd,1,none⟩)) (.agg #[.int .i64 x.1,.int .i64 x.2]) rfl rfl _ (push_any Bd 1 _ _ g1 x _ w2 hb2 rfl hrg2 (by omega) (by decide)) ?_;rintro e w3 ⟨rfl,v3,hb3,ho3,hr3,hk3⟩;refine ⟨_,rfl,?_⟩))
      have hk2':Kept (fun k=>k=Bd) wr w2:=((Kept.refl _ wr).drew).trans hk2
      have HN:=hid (HL.out.over Hcvl.out hr2 ho2 hk2' hb3 ho3 hr3 hk3)
      have HLn:Hid (lenAt Bd w3 < lenAt Bd wr):=by show _ < _;rw [HN.out.len,HL.out.len,hlen];omega
      clear hb2 hr2 ho2 hk2 hb3 ho3 hr3 hk3 hk2' hBd hrcd hrgd hrg2 a0 a1
      go_wp2
      go_roundw
      case rel=>exact ⟨_,_,_,_,HN.out⟩
      case measure=>exact HLn.out
 . rw [List.concat_eq_append] at hgz
   subst hgz
   have hz:z=s/\zs.reverse++cm=rest:=by
    rw [List.reverse_append] at he
    simpa using he
   obtain ⟨rfl,hrest⟩:=hz
   have hlen:(zs++[z]).length=zs.length+1:=by simp
   rw [hlen] at hl
   have HP:Hid (Calls Tryz.prog 212 #[.pointer (some ⟨Bd,1,none⟩)] w fun e w'=>e=.returned (.agg #[.int .i64 z.1,.int .i64 z.2])/\∃ v,w'.heap[Bd]?=some (.cells (#[cv,gv].setIfInBounds 1 v) 240 (0,0))/\Row w' 261 4 v (levels zs)/\v.ownBlock=gv.ownBlock/\Kept (fun k=>k=Bd) w w'):=
    pop_any Bd 1 _ 240 zs z _ w hB rfl hg (by omega) (by decide)
   have HC:=hid hc
   have HB0:=hid hB
   have HAp:=hid hap
   obtain ⟨ga,gc,hgv,-⟩:=hg.len (by decide)
   rw [levels_length,Nat.mul_div_cancel _ (by omega),hlen] at hgv
   rw [hgv] at b1
   have HGv:=hid hgv
   have hne0:¬ ((zs.length+1:Nat):Int)=0:=by omega
   have hne1:¬ (zs.length:Int)+1=0:=by omega
   clear hB hc hg hap hgv hcvl
   go_enter Tryz.func210,Tryz.ntmps210
   go_upto_region 3 with fail
   clear b0 b1
   go_wp2_with fail
   refine HP.out.mono ?_
   rintro e w4 ⟨rfl,v,h1,h2,h3,h4⟩
   have H1:=hid h1
   have H2:=hid h2
   have H3:=hid h3
   have H4:=hid h4
   clear h1 h2 h3 h4
   go_wp2
   go_end0
   refine ⟨rfl,cv,v,cm,zs,H1.out,HC.out.kept H4.out (fun k hk e=>?_),H2.out,hrest,rfl,fun k hk=>.inl (by rw [<- H3.out];exact hk),fun k hk hh=>HAp.out k hk (by rw [<- H3.out];exact hh),H4.out.mono (fun k _ e=>.inl e)⟩
   subst e;exact HC.out.ne_block HB0.out (by decide) hk
end Go.Proofs.YtcfngdnmpogaoaaGreat
namespace Go.Proofs.YtcfngdnmpogaoaaGreat
open Go.RowKit Go.MuLone
variable {b:Nat} {cv gv:Value} {ps:List Pane} {w:World}
structure PartsMid (w:World) (b:Nat) (cv gv:Value) (p1 p2 p3:List Pane):Prop where
 tot:w.heap[b]?=some (.cells #[.int .i64 (cntV (evsOf p1)),.int .i64 (sumV (evsOf p1))] 214 (0,0))
 bnd:w.heap[b+1]?=some (.cells #[cv,gv] 240 (0,0))
 stacks:∃ cm gg,Row w 261 4 cv (levels cm)/\Row w 261 4 gv (levels gg)/\gg.reverse++cm=p2.map Pane.span
 apart:∀ k,cv.ownBlock=some k->gv.ownBlock ≠ some k
 tags:TagC w (b+2) (tagN p3)
 all:w.heap[b+3]?=some (.cells #[.iface 212 (.pointer (some ⟨b,0,none⟩)),.iface 215 (.pointer (some ⟨b+1,0,none⟩)),.iface 218 (.map (some (b+2)))] 210 (0,0))
theorem PartsAt.mid (h:PartsAt w b cv gv ps):PartsMid w b cv gv ps ps ps:=⟨h.tot,h.bnd,h.stacks,h.apart,h.tags,h.all⟩
theorem PartsMid.at (h:PartsMid w b cv gv ps ps ps):PartsAt w b cv gv ps:=⟨h.tot,h.bnd,h.stacks,h.apart,h.tags,h.all⟩
theorem PartsMid.congr {w':World} {p1 p2 p3:List Pane} (h:PartsMid w b cv gv p1 p2 p3) (hb:∀ k,partsFoot b cv gv k->w'.heap[k]?=w.heap[k]?):PartsMid w' b cv gv p1 p2 p3:=by
 obtain ⟨cm,gg,h1,h2,h3⟩:=h.stacks
 exact ⟨(hb b (.inl (by omega))).trans h.tot,(hb _ (.inl (by omega))).trans h.bnd,⟨cm,gg,h1.congr (fun k hk=>hb k (.inr (.inl hk))),h2.congr (fun k hk=>hb k (.inr (.inr hk))),h3⟩,h.apart,h.tags.congr (hb _ (.inl (by omega))),(hb _ (.inl (by omega))).trans h.all⟩
theorem wrap64_two (a b:Int):wrap64 (wrap64 a+wrap64 b)=wrap64 (a+b):=by unfold wrap64;omega
theorem wrap64_less (a b:Int):wrap64 (wrap64 (a+b) - wrap64 a)=wrap64 b:=by unfold wrap64;omega
theorem cntP_snoc (ps:List Pane) (p:Pane):wrap64 (cntV (evsOf ps)+cntV p.evs)=cntV (evsOf (ps++[p])):=by
 unfold cntV
 rw [wrap64_two]
 congr 1
 simp [evsOf]
theorem sumP_snoc (ps:List Pane) (p:Pane):wrap64 (sumV (evsOf ps)+sumV p.evs)=sumV (evsOf (ps++[p])):=by
 unfold sumV
 rw [wrap64_two]
 congr 1
 simp [evsOf]
theorem cntP_cons (ps:List Pane) (p:Pane):wrap64 (cntV (evsOf (p :: ps)) - cntV p.evs)=cntV (evsOf ps):=by
 unfold cntV
 have:((evsOf (p :: ps)).length:Int)=(p.evs.length:Int)+((evsOf ps).length:Int):=by simp [evsOf]
 rw [this,wrap64_less]
theorem sumP_cons (ps:List Pane) (p:Pane):wrap64 (sumV (evsOf (p :: ps)) - sumV p.evs)=sumV (evsOf ps):=by
 unfold sumV
 have:((evsOf (p :: ps)).map Ev.v).sum=(p.evs.map Ev.v).sum+((evsOf ps).map Ev.v).sum:=by simp [evsOf]
 rw [this,wrap64_less]
theorem PartsMid.kindOf {p1 p2 p3:List Pane} (h:PartsMid w b cv gv p1 p2 p3):(∀ k,cv.ownBlock=some k->Cb w k 261)/\∀ k,gv.ownBlock=some k->Cb w k 261:=by
 obtain ⟨cm,gg,h1,h2,h3⟩:=h.stacks
 exact ⟨fun k hk=>h1.cb hk,fun k hk=>h2.cb hk⟩
theorem mid_enter1 (b P M:Nat) (p:Pane) (cv gv:Value) (p1 p2 p3:List Pane) (w:World) (h:PartsMid w b cv gv p1 p2 p3) (hp:PaneAt w P M p) :
 Calls Tryz.prog 207 #[.pointer (some ⟨b,0,none⟩),.pointer (some ⟨P,0,none⟩)] w fun e w'=>e=.returned (.tuple #[])/\PartsMid w' b cv gv (p1++[p]) p2 p3/\Kept (fun k=>k=b) w w':=by
 have hne:P ≠ b:=(Cb.of hp.pane).ne (Cb.of h.tot) (by decide)
 refine (total_enter b P M _ _ p.first p.last _ _ _ _ w h.tot hp.pane hne).mono ?_
 rintro e w' ⟨rfl,h1,h2⟩
 rw [cntP_snoc,sumP_snoc] at h1
 obtain ⟨k1,k2⟩:=h.kindOf
 have hq:PartsMid w' b cv gv (p1++[p]) p2 p3:=by
  obtain ⟨cm,gg,a1,a2,a3⟩:=h.stacks
  refine ⟨h1,(h2.block _ (blkLt h.bnd) (by omega)).trans h.bnd,⟨cm,gg,a1.kept h2 (fun k hk e=>(k1 k hk).ne (Cb.of h.tot) (by decide) e),a2.kept h2 (fun k hk e=>(k2 k hk).ne (Cb.of h.tot) (by decide) e),a3⟩,h.apart,h.tags.congr (h2.block _ h.tags.lt (by omega)),(h2.block _ (blkLt h.all) (by omega)).trans h.all⟩
 exact ⟨rfl,hq,h2⟩
theorem span_len {cm gg:List (Int × Int)} (h:gg.reverse++cm=ps.map Pane.span):cm.length+gg.length=ps.length:=by
 have:=congrArg List.length h
 rw [List.length_append,List.length_reverse,List.length_map] at this
 omega
theorem mid_enter2 (b P M:Nat) (p:Pane) (cv gv:Value) (p1 p2 p3:List Pane) (w:World) (h:PartsMid w b cv gv p1 p2 p3) (hp:PaneAt w P M p) (hl:p2.length<=900000000) :
 Calls Tryz.prog 209 #[.pointer (some ⟨b+1,0,none⟩),.pointer (some ⟨P,0,none⟩)] w fun e w'=>e=.returned (.tuple #[])/\∃ cv',PartsMid w' b cv' gv p1 (p2++[p]) p3/\(∀ k,cv'.ownBlock=some k->cv.ownBlock=some k\/w.heap.size<=k)/\Kept (fun k=>k=b+1\/cv.ownBlock=some k) w w':=by
 obtain ⟨cm,gg,a1,a2,a3⟩:=h.stacks
 obtain ⟨k1,k2⟩:=h.kindOf
 have hsl:=span_len a3
 refine (bounds_enter_any (b+1) P M p cv gv cm w h.bnd a1 hp (by omega)).mono ?_
 rintro e w' ⟨rfl,v,h1,h2,h3,h4⟩
 have hno:∀ k t,Cb w k t->t ≠ 240->t ≠ 261->¬ (k=b+1\/cv.ownBlock=some k):=fun k t hk n1 n2 hh=>by
  rcases hh with rfl | hh
  . exact hk.ne (Cb.of h.bnd) n1 rfl
  . exact hk.ne (k1 k hh) n2 rfl
 refine ⟨rfl,v,⟨(h4.block _ (blkLt h.tot) (hno _ _ (Cb.of h.tot) (by decide) (by decide))).trans h.tot,h1,⟨cm++[p.span],gg,h3,a2.kept h4 (fun k hk hh=>?_),by rw [<- List.append_assoc,a3,List.map_append];rfl⟩,fun k hk hh=>?_,h.tags.congr (h4.block _ h.tags.lt (fun hh=>?_)),(h4.block _ (blkLt h.all) (hno _ _ (Cb.of h.all) (by decide) (by decide))).trans h.all⟩,h2,h4⟩
 . rcases hh with rfl | hh
   . exact (k2 _ hk).ne (Cb.of h.bnd) (by decide) rfl
   . exact h.apart k hh hk
 . rcases h2 k hk with h5 | h5
   . exact h.apart k h5 hh
   . have:=(a2.blk_lt hh).1;omega
 . rcases hh with hh | hh
   . omega
   . exact (k1 _ hh).neM h.tags.mb rfl
theorem mid_enter3 (b P M:Nat) (p:Pane) (cv gv:Value) (p1 p2 p3:List Pane) (w:World) (h:PartsMid w b cv gv p1 p2 p3) (hp:PaneAt w P M p) (hM:M ≠ b+2) (hl:p3.length<=900000000) :
 Calls Tryz.prog 213 #[.map (some (b+2)),.pointer (some ⟨P,0,none⟩)] w fun e w'=>e=.returned (.tuple #[])/\PartsMid w' b cv gv p1 p2 (p3++[p])/\Kept (fun k=>k=b+2) w w':=by
 have hf:∀ x,tagN p3 x < 4611686018427387904:=fun x=>by
  have:tagN p3 x<=p3.length:=List.length_filter_le _ _
  omega
 refine (tags_enter_any (b+2) P M p (tagN p3) w hp h.tags hM hf).mono ?_
 rintro e w' ⟨rfl,h1,h2⟩
 obtain ⟨cm,gg,a1,a2,a3⟩:=h.stacks
 obtain ⟨k1,k2⟩:=h.kindOf
 have he:(fun x=>tagN p3 x+if hasTag p.evs x then 1 else 0)=tagN (p3++[p]):=funext (fun x=>by rw [tagN_append,tagN_cons,tagN_nil];omega)
 rw [he] at h1
 exact ⟨rfl,⟨(h2.block _ (blkLt h.tot) (by omega)).trans h.tot,(h2.block _ (blkLt h.bnd) (by omega)).trans h.bnd,⟨cm,gg,a1.kept h2 (fun k hk e=>(k1 k hk).neM h.tags.mb e),a2.kept h2 (fun k hk e=>(k2 k hk).neM h.tags.mb e),a3⟩,h.apart,h1,(h2.block _ (blkLt h.all) (by omega)).trans h.all⟩,h2⟩
theorem mid_leave1 (b P M:Nat) (p:Pane) (cv gv:Value) (p1 p2 p3:List Pane) (w:World) (h:PartsMid w b cv gv (p :: p1) p2 p3) (hp:PaneAt w P M p) :
 Calls Tryz.prog 208 #[.pointer (some ⟨b,0,none⟩),.pointer (some ⟨P,0,none⟩)] w fun e w'=>e=.returned (.tuple #[])/\PartsMid w' b cv gv p1 p2 p3/\Kept (fun k=>k=b) w w':=by
 have hne:P ≠ b:=(Cb.of hp.pane).ne (Cb.of h.tot) (by decide)
 refine (total_go b P M _ _ p.first p.last _ _ _ _ w h.tot hp.pane hne).mono ?_
 rintro e w' ⟨rfl,h1,h2⟩
 rw [cntP_cons,sumP_cons] at h1
 obtain ⟨k1,k2⟩:=h.kindOf
 have hq:PartsMid w' b cv gv p1 p2 p3:=by
  obtain ⟨cm,gg,a1,a2,a3⟩:=h.stacks
  refine ⟨h1,(h2.block _ (blkLt h.bnd) (by omega)).trans h.bnd,⟨cm,gg,a1.kept h2 (fun k hk e=>(k1 k hk).ne (Cb.of h.tot) (by decide) e),a2.kept h2 (fun k hk e=>(k2 k hk).ne (Cb.of h.tot) (by decide) e),a3⟩,h.apart,h.tags.congr (h2.block _ h.tags.lt (by omega)),(h2.block _ (blkLt h.all) (by omega)).trans h.all⟩
 exact ⟨rfl,hq,h2⟩
theorem mid_leave2 (b:Nat) (pv:Value) (p:Pane) (cv gv:Value) (p1 p2 p3:List Pane) (w:World) (h:PartsMid w b cv gv p1 (p :: p2) p3) (hl:p2.length < 900000000) :
 Calls Tryz.prog 210 #[.pointer (some ⟨b+1,0,none⟩),pv] w fun e w'=>e=.returned (.tuple #[])/\∃ cv' gv',PartsMid w' b cv' gv' p1 p2 p3/\cv'.ownBlock=cv.ownBlock/\(∀ k,gv'.ownBlock=some k->gv.ownBlock=some k\/w.heap.size<=k)/\Kept (fun k=>k=b+1\/gv.ownBlock=some k) w w':=by
 obtain ⟨cm,gg,a1,a2,a3⟩:=h.stacks
 obtain ⟨k1,k2⟩:=h.kindOf
 have hsl:=span_len a3
 rw [List.length_cons] at hsl
 refine (bounds_leave_any (b+1) pv cv gv cm gg (p2.map Pane.span) p.span w h.bnd a1 a2 h.apart a3 (by omega)).mono ?_
 rintro e w' ⟨rfl,cv',gv',cm',gg',h1,h2,h3,h4,h5,h6,h7,h8⟩
 have hno:∀ k t,Cb w k t->t ≠ 240->t ≠ 261->¬ (k=b+1\/gv.ownBlock=some k):=fun k t hk n1 n2 hh=>by
  rcases hh with rfl | hh
  . exact hk.ne (Cb.of h.bnd) n1 rfl
  . exact hk.ne (k2 k hh) n2 rfl
 refine ⟨rfl,cv',gv',⟨(h8.block _ (blkLt h.tot) (hno _ _ (Cb.of h.tot) (by decide) (by decide))).trans h.tot,h1,⟨cm',gg',h2,h3,h4⟩,h7,h.tags.congr (h8.block _ h.tags.lt (fun hh=>?_)),(h8.block _ (blkLt h.all) (hno _ _ (Cb.of h.all) (by decide) (by decide))).trans h.all⟩,h5,h6,h8⟩
 rcases hh with hh | hh
 . omega
 . exact (k2 _ hh).neM h.tags.mb rfl
theorem mid_leave3 (b P M:Nat) (p:Pane) (cv gv:Value) (p1 p2 p3:List Pane) (w:World) (h:PartsMid w b cv gv p1 p2 (p :: p3)) (hp:PaneAt w P M p) (hM:M ≠ b+2) (hl:p3.length < 900000000) :
 Calls Tryz.prog 214 #[.map (some (b+2)),.pointer (some ⟨P,0,none⟩)] w fun e w'=>e=.returned (.tuple #[])/\PartsMid w' b cv gv p1 p2 p3/\Kept (fun k=>k=b+2) w w':=by
 have hf:∀ x,tagN (p :: p3) x < 4611686018427387904:=fun x=>by
  have:tagN (p :: p3) x<=(p :: p3).length:=List.length_filter_le _ _
  rw [List.length_cons] at this
  omega
 refine (tags_leave_any (b+2) P M p (tagN (p :: p3)) w hp h.tags hM hf (fun x hx=>by rw [tagN_cons,if_pos hx];omega)).mono ?_
 rintro e w' ⟨rfl,h1,h2⟩
 obtain ⟨cm,gg,a1,a2,a3⟩:=h.stacks
 obtain ⟨k1,k2⟩:=h.kindOf
 have he:(fun x=>tagN (p :: p3) x - if hasTag p.evs x then 1 else 0)=tagN p3:=funext (fun x=>by rw [tagN_cons];omega)
 rw [he] at h1
 exact ⟨rfl,⟨(h2.block _ (blkLt h.tot) (by omega)).trans h.tot,(h2.block _ (blkLt h.bnd) (by omega)).trans h.bnd,⟨cm,gg,a1.kept h2 (fun k hk e=>(k1 k hk).neM h.tags.mb e),a2.kept h2 (fun k hk e=>(k2 k hk).neM h.tags.mb e),a3⟩,h.apart,h1,(h2.block _ (blkLt h.all) (by omega)).trans h.all⟩,h2⟩
end Go.Proofs.YtcfngdnmpogaoaaGreat
