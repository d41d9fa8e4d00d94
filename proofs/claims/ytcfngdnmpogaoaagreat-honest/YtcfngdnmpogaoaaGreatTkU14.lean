import Derived.Test.YtcfngdnmpogaoaaGreatTkU02
import Derived.Test.YtcfngdnmpogaoaaGreatTkU12
import Derived.Test.YtcfngdnmpogaoaaGreatTkU03
import Derived.Test.YtcfngdnmpogaoaaGreatTkU08
import Derived.Test.YtcfngdnmpogaoaaGreatTkU13
import Derived.Test.YtcfngdnmpogaoaaGreatTkU11
namespace Go.Proofs.YtcfngdnmpogaoaaGreat
open Go.RowKit Go.MuLone
variable {b:Nat} {cm gg:List (Int × Int)} {cnt sum:Int} {cv gv:Value} {f:Int->Nat} {w:World}
set_option maxHeartbeats 6400000
set_option maxRecDepth 20000
def RisingOk:Prop:=∀ (M:Nat) (f:Int->Nat) (W:World),TagC W M f->Calls Tryz.prog 129 #[.map (some M)] W fun e w'=>∃ ta tn tc,∃ l:List Nat,e=.returned (.slice ta tn tc)/\Row w' 26 1 (.slice ta tn tc) (l.map tagV)/\l.Pairwise (· < ·)/\(∀ x:Nat,x ∈ l ↔ 0 < f x)/\(∀ k,(Value.slice ta tn tc).ownBlock=some k->W.heap.size<=k)/\Below W.heap.size W w'
structure PartsT (w:World) (b:Nat) (cv gv:Value) (cnt sum:Int) (cm gg:List (Int × Int)) (f:Int->Nat):Prop where
 tot:w.heap[b]?=some (.cells #[.int .i64 cnt,.int .i64 sum] 214 (0,0))
 bnd:w.heap[b+1]?=some (.cells #[cv,gv] 240 (0,0))
 rc:Row w 261 4 cv (levels cm)
 rg:Row w 261 4 gv (levels gg)
 l1:cm.length<=1000000000
 l2:gg.length<=1000000000
 tags:TagC w (b+2) f
 all:w.heap[b+3]?=some (.cells #[.iface 212 (.pointer (some ⟨b,0,none⟩)),.iface 215 (.pointer (some ⟨b+1,0,none⟩)),.iface 218 (.map (some (b+2)))] 210 (0,0))
theorem PartsT.congr {w':World} (h:PartsT w b cv gv cnt sum cm gg f) (hb:∀ k,partsFoot b cv gv k->w'.heap[k]?=w.heap[k]?):PartsT w' b cv gv cnt sum cm gg f:=
 ⟨(hb b (.inl (by omega))).trans h.tot,(hb _ (.inl (by omega))).trans h.bnd,h.rc.congr (fun k hk=>hb k (.inr (.inl hk))),h.rg.congr (fun k hk=>hb k (.inr (.inr hk))),h.l1,h.l2,h.tags.congr (hb _ (.inl (by omega))),(hb _ (.inl (by omega))).trans h.all⟩
theorem PartsT.foot (h:PartsT w b cv gv cnt sum cm gg f):∀ k,partsFoot b cv gv k->k < w.heap.size:=fun k hk=>by
 rcases hk with ⟨a1,a2⟩ | hk | hk
 . have:=blkLt h.all;omega
 . exact (h.rc.blk_lt hk).1
 . exact (h.rg.blk_lt hk).1
theorem PartsT.below {w':World} (h:PartsT w b cv gv cnt sum cm gg f) (hb:Below w.heap.size w w'):PartsT w' b cv gv cnt sum cm gg f:=h.congr (fun k hk=>hb.block k (h.foot k hk))
theorem PartsT.other (h:PartsT w b cv gv cnt sum cm gg f) (V i:Nat) (v:Value) (hV:∀ k,partsFoot b cv gv k->k ≠ V):PartsT (w.setCell ⟨V,i,none⟩ v) b cv gv cnt sum cm gg f:=h.congr (fun k hk=>heap_setCell_other _ _ _ _ (hV k hk))
def wdC (key:ByteArray) (start cnt sum lo hi:Int) (tv:Value):Array Value:=#[.string key,.int .i64 start,.int .i64 cnt,.int .i64 sum,.int .i64 lo,.int .i64 hi,tv]
theorem wdCAt {V:Nat} {key:ByteArray} {start lo hi:Int} {tv:Value} (h:w.heap[V]?=some (.cells (wdC key start cnt sum lo hi tv) 70 (0,0))) :
 w.cell? ⟨V,0,none⟩=some (.string key)/\w.cell? ⟨V,1,none⟩=some (.int .i64 start)/\w.cell? ⟨V,2,none⟩=some (.int .i64 cnt)/\w.cell? ⟨V,3,none⟩=some (.int .i64 sum)/\w.cell? ⟨V,4,none⟩=some (.int .i64 lo)/\w.cell? ⟨V,5,none⟩=some (.int .i64 hi)/\w.cell? ⟨V,6,none⟩=some tv/\(∀ j,w.frozen? ⟨V,j,none⟩=false):=
 ⟨blkCell h rfl,blkCell h rfl,blkCell h rfl,blkCell h rfl,blkCell h rfl,blkCell h rfl,blkCell h rfl,blkFrozen h⟩
theorem told_of (HRis:RisingOk) (key:ByteArray) (start:Int) (b:Nat) (cv gv:Value) (cnt sum:Int) (cm gg:List (Int × Int)) (f:Int->Nat) (w:World) (h:PartsT w b cv gv cnt sum cm gg f) :
 Calls Tryz.prog 103 #[.string key,.int .i64 start,.slice (some ⟨b+3,0,none⟩) 3 3] w fun e w'=>∃ ta tn tc,∃ l:List Nat,e=.returned (.agg #[.string key,.int .i64 start,.int .i64 cnt,.int .i64 sum,.int .i64 (joinS (runS cm) (runS gg)).1,.int .i64 (joinS (runS cm) (runS gg)).2,.slice ta tn tc]) /\
  Row w' 26 1 (.slice ta tn tc) (l.map tagV)/\l.Pairwise (· < ·)/\(∀ x:Nat,x ∈ l ↔ 0 < f x)/\(∀ k,(Value.slice ta tn tc).ownBlock=some k->w.heap.size<=k)/\Below w.heap.size w w':=by
 have HRisH:Hid RisingOk:=HRis
 obtain ⟨X,HX⟩:∃ X,Hid ((joinS (runS cm) (runS gg)).1=X):=⟨_,rfl⟩
 obtain ⟨Y,HY⟩:∃ Y,Hid ((joinS (runS cm) (runS gg)).2=Y):=⟨_,rfl⟩
 rw [HX.out,HY.out]
 clear HRis
 have hbs:=blkLt h.all
 have hft:=h.foot
 go_enter Tryz.func103,Tryz.ntmps103
 go_upto_region 3 with fail
 obtain ⟨hR,hV⟩:=two_new w (.cells (wdC ⟨#[]⟩ 0 0 0 0 0 (.slice none 0 0)) 70) (.cells (wdC key start 0 0 0 0 (.slice none 0 0)) 70)
 have B1:Hid (Below w.heap.size w ((w.alloc (.cells (wdC ⟨#[]⟩ 0 0 0 0 0 (.slice none 0 0)) 70)).alloc (.cells (wdC key start 0 0 0 0 (.slice none 0 0)) 70))):=((Below.refl _ w).alloc (Nat.le_refl _) _).alloc (by simp) _
 have h1:=h.below B1.out
 have hz1:w.heap.size+1 < ((w.alloc (.cells (wdC ⟨#[]⟩ 0 0 0 0 0 (.slice none 0 0)) 70)).alloc (.cells (wdC key start 0 0 0 0 (.slice none 0 0)) 70)).heap.size:=blkLt hV
 change Code.wp _ _ _ _ ((w.alloc (.cells (wdC ⟨#[]⟩ 0 0 0 0 0 (.slice none 0 0)) 70)).alloc (.cells (wdC key start 0 0 0 0 (.slice none 0 0)) 70))
 generalize (w.alloc (.cells (wdC ⟨#[]⟩ 0 0 0 0 0 (.slice none 0 0)) 70)).alloc (.cells (wdC key start 0 0 0 0 (.slice none 0 0)) 70)=W1 at *
 obtain ⟨R,HR⟩:∃ R,Hid (w.heap.size=R):=⟨_,rfl⟩
 obtain ⟨V,HV⟩:∃ V,Hid (R+1=V):=⟨_,rfl⟩
 rw [HR.out] at hR hV hz1 B1 hbs hft ⊢
 rw [HV.out] at hV hz1 ⊢
 have hbV:b+3 < V:=by rw [<- HV.out];omega
 have hgV:∀ k,partsFoot b cv gv k->k ≠ V:=fun k hk=>by have:=hft k hk;rw [<- HV.out];omega
 have hVb:V ≠ b:=by omega
 have hRV:R ≠ V:=by rw [<- HV.out];omega
 clear h
 have p0:=blkCell h1.all (i:=0) rfl
 have t0:=blkCell h1.tot (i:=0) rfl
 have t1:=blkCell h1.tot (i:=1) rfl
 obtain ⟨v0,v1,v2,v3,v4,v5,v6,vf⟩:=wdCAt hV
 have ta0:∀ W:World,(Instr.typeAssert (.iface 212 (.pointer (some ⟨b,0,none⟩))) 210 212 true).run Tryz.prog W=.ok (.tuple #[.pointer (some ⟨b,0,none⟩),.bool true]) W:=fun _=>by kernel_rfl
 have ta1:∀ W:World,(Instr.typeAssert (.iface 215 (.pointer (some ⟨b+1,0,none⟩))) 210 212 true).run Tryz.prog W=.ok (.tuple #[.pointer none,.bool false]) W:=fun _=>by kernel_rfl
 have ta2:∀ W:World,(Instr.typeAssert (.iface 215 (.pointer (some ⟨b+1,0,none⟩))) 210 215 true).run Tryz.prog W=.ok (.tuple #[.pointer (some ⟨b+1,0,none⟩),.bool true]) W:=fun _=>by kernel_rfl
 have ta3:∀ W:World,(Instr.typeAssert (.iface 218 (.map (some (b+2)))) 210 212 true).run Tryz.prog W=.ok (.tuple #[.pointer none,.bool false]) W:=fun _=>by kernel_rfl
 have ta4:∀ W:World,(Instr.typeAssert (.iface 218 (.map (some (b+2)))) 210 215 true).run Tryz.prog W=.ok (.tuple #[.pointer none,.bool false]) W:=fun _=>by kernel_rfl
 have ta5:∀ W:World,(Instr.typeAssert (.iface 218 (.map (some (b+2)))) 210 218 true).run Tryz.prog W=.ok (.tuple #[.map (some (b+2)),.bool true]) W:=fun _=>by kernel_rfl
 refine wp_loop_rounds 4 ?_
 rw [rounds_succ]
 go_wp2_with fail
 have hdb:V ≠ b:=hVb
 have hdb':b ≠ V:=Ne.symm hVb
 go_region_held3 (fun W=>W.cell? ⟨b,0,none⟩=some (.int .i64 cnt)/\W.cell? ⟨b,1,none⟩=some (.int .i64 sum)) (go_keep) (fail)
 have hV2:((W1.setCell ⟨V,2,none⟩ (.int .i64 cnt)).setCell ⟨V,3,none⟩ (.int .i64 sum)).drew.heap[V]?=some (.cells (wdC key start cnt sum 0 0 (.slice none 0 0)) 70 (0,0)):=blkPut (blkPut hV 2 (.int .i64 cnt)) 3 (.int .i64 sum)
 have hR2:((W1.setCell ⟨V,2,none⟩ (.int .i64 cnt)).setCell ⟨V,3,none⟩ (.int .i64 sum)).drew.heap[R]?=some (.cells (wdC ⟨#[]⟩ 0 0 0 0 0 (.slice none 0 0)) 70 (0,0)):=blkOther (blkOther hR V 2 (.int .i64 cnt) hRV) V 3 (.int .i64 sum) hRV
 have h2:PartsT ((W1.setCell ⟨V,2,none⟩ (.int .i64 cnt)).setCell ⟨V,3,none⟩ (.int .i64 sum)).drew b cv gv cnt sum cm gg f:=((h1.other V 2 (.int .i64 cnt) hgV).other V 3 (.int .i64 sum) hgV).below ((Below.refl _ _).drew)
 have hVR:R<=V:=by rw [<- HV.out];omega
 have B2:=hid (((B1.out.setCell (p:=⟨V,2,none⟩) hVR (.int .i64 cnt)).setCell (p:=⟨V,3,none⟩) hVR (.int .i64 sum)).drew)
 clear p0 t0 t1 v0 v1 v2 v3 v4 v5 v6 vf hV hR h1 B1 hz1 ta0
 generalize ((W1.setCell ⟨V,2,none⟩ (.int .i64 cnt)).setCell ⟨V,3,none⟩ (.int .i64 sum)).drew=W2 at *
 have p1:=blkCell h2.all (i:=1) rfl
 go_wp2_with fail
 rw [rounds_succ]
 go_wp2_with fail
 refine (bounds_whole_any (b+1) cv gv cm gg W2 h2.bnd h2.rc h2.rg h2.l1 h2.l2).mono ?_
 rw [HX.out,HY.out]
 rintro e W3 ⟨rfl,hb3⟩
 have hV3:=blkBelow hV2 hb3
 have hR3:=blkBelow hR2 hb3
 have h3:=h2.below hb3
 have B3:=hid (B2.out.trans (hb3.mono (Nat.le_of_lt (blkLt hR2))))
 clear hb3 hV2 hR2 h2 B2 p1
 go_upto_region 12 with fail
 have hx4:=heap_alloc_new W3 (.cells #[.int .i64 X,.int .i64 Y] 204)
 have hV4:=blkAlloc hV3 (.cells #[.int .i64 X,.int .i64 Y] 204)
 have hR4:=blkAlloc hR3 (.cells #[.int .i64 X,.int .i64 Y] 204)
 have h4:=h3.below ((Below.refl _ W3).alloc (Nat.le_refl _) (.cells #[.int .i64 X,.int .i64 Y] 204))
 have B4:Hid (Below R w (W3.alloc (.cells #[.int .i64 X,.int .i64 Y] 204))):=B3.out.alloc (Nat.le_of_lt (blkLt hR3)) _
 have hxV:W3.heap.size ≠ V:=by have:=blkLt hV3;omega
 clear hV3 hR3 h3 B3
 generalize W3.alloc (.cells #[.int .i64 X,.int .i64 Y] 204)=W4 at *
 generalize W3.heap.size=x at *
 have hVx:V ≠ x:=Ne.symm hxV
 obtain ⟨y0,y1,-,-⟩:=cells2At hx4
 obtain ⟨v0,v1,v2,v3,v4,v5,v6,vf⟩:=wdCAt hV4
 go_region_held3 (fun W=>W.cell? ⟨x,0,none⟩=some (.int .i64 X)/\W.cell? ⟨x,1,none⟩=some (.int .i64 Y)) (go_keep) (fail)
 have hV5:((W4.setCell ⟨V,4,none⟩ (.int .i64 X)).setCell ⟨V,5,none⟩ (.int .i64 Y)).drew.heap[V]?=some (.cells (wdC key start cnt sum X Y (.slice none 0 0)) 70 (0,0)):=blkPut (blkPut hV4 4 (.int .i64 X)) 5 (.int .i64 Y)
 have hR5:((W4.setCell ⟨V,4,none⟩ (.int .i64 X)).setCell ⟨V,5,none⟩ (.int .i64 Y)).drew.heap[R]?=some (.cells (wdC ⟨#[]⟩ 0 0 0 0 0 (.slice none 0 0)) 70 (0,0)):=blkOther (blkOther hR4 V 4 (.int .i64 X) hRV) V 5 (.int .i64 Y) hRV
 have h5:PartsT ((W4.setCell ⟨V,4,none⟩ (.int .i64 X)).setCell ⟨V,5,none⟩ (.int .i64 Y)).drew b cv gv cnt sum cm gg f:=((h4.other V 4 (.int .i64 X) hgV).other V 5 (.int .i64 Y) hgV).below ((Below.refl _ _).drew)
 have B5:=hid (((B4.out.setCell (p:=⟨V,4,none⟩) hVR (.int .i64 X)).setCell (p:=⟨V,5,none⟩) hVR (.int .i64 Y)).drew)
 clear v0 v1 v2 v3 v4 v5 v6 vf y0 y1 hx4 hV4 hR4 h4 B4 ta1 ta2 hxV hVx
 generalize ((W4.setCell ⟨V,4,none⟩ (.int .i64 X)).setCell ⟨V,5,none⟩ (.int .i64 Y)).drew=W5 at *
 have p2:=blkCell h5.all (i:=2) rfl
 go_wp2_with fail
 rw [rounds_succ]
 go_wp2_with fail
 refine (HRisH.out (b+2) f W5 h5.tags).mono ?_
 rintro e W6 ⟨ta,tn,tc,l,rfl,htr,hpw,hmm,htg,hb6⟩
 have hV6:=blkBelow hV5 hb6
 have hR6:=blkBelow hR5 hb6
 have B6:=hid (B5.out.trans (hb6.mono (Nat.le_of_lt (blkLt hR5))))
 have htV:(Value.slice ta tn tc).ownBlock ≠ some V:=fun e=>by have:=htg V e;have:=blkLt hV5;omega
 have HtR:Hid (∀ k,(Value.slice ta tn tc).ownBlock=some k->R < k):=fun k hk=>by have:=htg k hk;have:=blkLt hR5;omega
 have HPw:Hid (l.Pairwise (· < ·)/\∀ x:Nat,x ∈ l ↔ 0 < f x):=⟨hpw,hmm⟩
 clear hpw hmm
 have Htr:=hid htr
 clear hb6 hV5 hR5 h5 B5 p2 htr htg
 obtain ⟨v0,v1,v2,v3,v4,v5,v6,vf⟩:=wdCAt hV6
 go_wp2_with fail
 have hV7:(W6.setCell ⟨V,6,none⟩ (.slice ta tn tc)).heap[V]?=some (.cells (wdC key start cnt sum X Y (.slice ta tn tc)) 70 (0,0)):=blkPut hV6 6 _
 have hR7:=blkOther hR6 V 6 (.slice ta tn tc) hRV
 have B7:Hid (Below R w (W6.setCell ⟨V,6,none⟩ (.slice ta tn tc))):=B6.out.setCell (p:=⟨V,6,none⟩) hVR _
 have Ht7:Hid (Row (W6.setCell ⟨V,6,none⟩ (.slice ta tn tc)) 26 1 (.slice ta tn tc) (l.map tagV)):=Htr.out.setCell _ _ htV
 clear v0 v1 v2 v3 v4 v5 v6 vf hV6 hR6 B6 Htr ta3 ta4 ta5
 generalize W6.setCell ⟨V,6,none⟩ (.slice ta tn tc)=W7 at *
 obtain ⟨v0,v1,v2,v3,v4,v5,v6,-⟩:=wdCAt hV7
 obtain ⟨r0,r1,r2,r3,r4,r5,r6,rf⟩:=wdCAt hR7
 rw [rounds_succ]
 go_wp2
 have hR8:(((((((W7.setCell ⟨R,0,none⟩ (.string key)).setCell ⟨R,1,none⟩ (.int .i64 start)).setCell ⟨R,2,none⟩ (.int .i64 cnt)).setCell ⟨R,3,none⟩ (.int .i64 sum)).setCell ⟨R,4,none⟩ (.int .i64 X)).setCell ⟨R,5,none⟩ (.int .i64 Y)).setCell ⟨R,6,none⟩ (.slice ta tn tc)).heap[R]?=some (.cells (wdC key start cnt sum X Y (.slice ta tn tc)) 70 (0,0)):=blkPut (blkPut (blkPut (blkPut (blkPut (blkPut (blkPut hR7 0 (.string key)) 1 (.int .i64 start)) 2 (.int .i64 cnt)) 3 (.int .i64 sum)) 4 (.int .i64 X)) 5 (.int .i64 Y)) 6 (.slice ta tn tc)
 have K8:Kept (fun k=>k=R) W7 (((((((W7.setCell ⟨R,0,none⟩ (.string key)).setCell ⟨R,1,none⟩ (.int .i64 start)).setCell ⟨R,2,none⟩ (.int .i64 cnt)).setCell ⟨R,3,none⟩ (.int .i64 sum)).setCell ⟨R,4,none⟩ (.int .i64 X)).setCell ⟨R,5,none⟩ (.int .i64 Y)).setCell ⟨R,6,none⟩ (.slice ta tn tc)):=(((((((Kept.refl (fun k=>k=R) W7).setCell ⟨R,0,none⟩ _ (fun _=>rfl)).setCell ⟨R,1,none⟩ _ (fun _=>rfl)).setCell ⟨R,2,none⟩ _ (fun _=>rfl)).setCell ⟨R,3,none⟩ _ (fun _=>rfl)).setCell ⟨R,4,none⟩ _ (fun _=>rfl)).setCell ⟨R,5,none⟩ _ (fun _=>rfl)).setCell ⟨R,6,none⟩ _ (fun _=>rfl)
 have B8:=B7.out.trans (K8.toBelow (B:=R) (Nat.le_of_lt (blkLt hR7)) (fun k hk h=>by omega))
 have Ht8:=Ht7.out.congr (w':=((((((W7.setCell ⟨R,0,none⟩ (.string key)).setCell ⟨R,1,none⟩ (.int .i64 start)).setCell ⟨R,2,none⟩ (.int .i64 cnt)).setCell ⟨R,3,none⟩ (.int .i64 sum)).setCell ⟨R,4,none⟩ (.int .i64 X)).setCell ⟨R,5,none⟩ (.int .i64 Y)).setCell ⟨R,6,none⟩ (.slice ta tn tc)) (fun k hk=>K8.block k (Ht7.out.blk_lt hk).1 (fun h=>by have:=HtR.out k hk;omega))
 clear v0 v1 v2 v3 v4 v5 v6 r0 r1 r2 r3 r4 r5 r6 rf K8
 generalize ((((((W7.setCell ⟨R,0,none⟩ (.string key)).setCell ⟨R,1,none⟩ (.int .i64 start)).setCell ⟨R,2,none⟩ (.int .i64 cnt)).setCell ⟨R,3,none⟩ (.int .i64 sum)).setCell ⟨R,4,none⟩ (.int .i64 X)).setCell ⟨R,5,none⟩ (.int .i64 Y)).setCell ⟨R,6,none⟩ (.slice ta tn tc)=W8 at *
 obtain ⟨r0,r1,r2,r3,r4,r5,r6,-⟩:=wdCAt hR8
 exact bodyPost_ret (v:=.agg #[.string key,.int .i64 start,.int .i64 cnt,.int .i64 sum,.int .i64 X,.int .i64 Y,.slice ta tn tc]) (by simp [results,Tryz.results103,go_sem,r0,r1,r2,r3,r4,r5,r6]) rfl ⟨ta,tn,tc,l,rfl,Ht8,HPw.out.1,HPw.out.2,fun k hk=>by have:=HtR.out k hk;rw [HR.out];omega,by rw [HR.out];exact B8⟩
end Go.Proofs.YtcfngdnmpogaoaaGreat
namespace Go.Proofs.YtcfngdnmpogaoaaGreat
open Go.RowKit Go.MuLone
set_option maxHeartbeats 1600000
theorem minV_eq (a b:Int):minV a b=min a b:=by unfold minV;split <;> omega
theorem maxV_eq (a b:Int):maxV a b=max a b:=by unfold maxV;split <;> omega
theorem joinS_comm (a b:Int × Int):joinS a b=joinS b a:=by
 unfold joinS
 rw [minV_eq,minV_eq,maxV_eq,maxV_eq,Int.min_comm,Int.max_comm]
theorem joinS_assoc (a b c:Int × Int):joinS (joinS a b) c=joinS a (joinS b c):=by
 unfold joinS
 simp only [minV_eq,maxV_eq,Int.min_assoc,Int.max_assoc]
def spanOk (x:Int × Int):Prop:=x.1<=9223372036854775807/\-9223372036854775808<=x.2
theorem joinS_none {x:Int × Int} (h:spanOk x):joinS noneS x=x:=by
 obtain ⟨h1,h2⟩:=h
 unfold joinS noneS minV maxV
 have e1:(if x.1 < 9223372036854775807 then x.1 else 9223372036854775807)=x.1:=by split <;> omega
 have e2:(if -9223372036854775808 < x.2 then x.2 else -9223372036854775808)=x.2:=by split <;> omega
 rw [e1,e2]
theorem runS_ok (xs:List (Int × Int)):spanOk (runS xs):=by
 unfold runS
 have:∀ (xs:List (Int × Int)) (a:Int × Int),spanOk a->spanOk (xs.foldl joinS a):=by
  intro xs
  induction xs with
  | nil=>intro a h;exact h
  | cons x xs ih=>
    intro a h
    refine ih _ ⟨?_,?_⟩
    . show minV a.1 x.1<=_
      rw [minV_eq];have:=h.1;omega
    . show _<=maxV a.2 x.2
      rw [maxV_eq];have:=h.2;omega
 exact this xs noneS ⟨Int.le_refl _,Int.le_refl _⟩
theorem foldS (xs:List (Int × Int)) (a:Int × Int) (h:spanOk a):xs.foldl joinS a=joinS a (runS xs):=by
 unfold runS
 induction xs generalizing a with
 | nil=>show a=joinS a noneS;rw [joinS_comm,joinS_none h]
 | cons x xs ih=>
   have hax:spanOk (joinS a x):=by
    refine ⟨?_,?_⟩
    . show minV a.1 x.1<=_
      rw [minV_eq];have:=h.1;omega
    . show _<=maxV a.2 x.2
      rw [maxV_eq];have:=h.2;omega
   have hnx:spanOk (joinS noneS x):=by
    refine ⟨?_,?_⟩
    . show minV noneS.1 x.1<=_
      rw [minV_eq];unfold noneS;simp only;omega
    . show _<=maxV noneS.2 x.2
      rw [maxV_eq];unfold noneS;simp only;omega
   rw [List.foldl_cons,List.foldl_cons,ih _ hax,ih _ hnx,<- joinS_assoc a (joinS noneS x),<- joinS_assoc a noneS,joinS_comm a noneS,joinS_none h]
theorem runS_append (xs ys:List (Int × Int)):runS (xs++ys)=joinS (runS xs) (runS ys):=by
 have:runS (xs++ys)=ys.foldl joinS (runS xs):=by unfold runS;rw [List.foldl_append]
 rw [this,foldS _ _ (runS_ok xs)]
theorem runS_reverse (xs:List (Int × Int)):runS xs.reverse=runS xs:=by
 induction xs with
 | nil=>rfl
 | cons x xs ih=>
   rw [List.reverse_cons,runS_append,ih,show x :: xs=[x]++xs from rfl,runS_append,joinS_comm]
theorem join_stacks (cm gg:List (Int × Int)):joinS (runS cm) (runS gg)=runS (gg.reverse++cm):=by
 rw [runS_append,runS_reverse,joinS_comm]
structure Told (q:List Pane) (key:ByteArray) (start:Int) (x:Win):Prop where
 key:x.key=key
 start:x.start=start
 cnt:x.cnt=cntV (evsOf q)
 sum:x.sum=sumV (evsOf q)
 lo:x.lo=(runS (q.map Pane.span)).1
 hi:x.hi=(runS (q.map Pane.span)).2
 rise:x.tags.Pairwise (· < ·)
 tags:∀ t:Nat,t ∈ x.tags ↔ 0 < tagN q t
def nextS (r:RunS):Int:=if 0 < r.inside then r.next else match r.ps with
 | p :: _=>p.first
 | []=>0
def entR (r:RunS):RunS:={ r with inside:=enterN r.ps r.inside (nextS r) }
def stepR (slide:Int) (r:RunS):RunS:=leaveS { entR r with next:=nextS r+slide } (nextS r+slide)
def slideF (size slide lt:Int):Nat->RunS->List (Int × List Pane)->RunS × List (Int × List Pane)
 | 0,r,ws=>(r,ws)
 | n+1,r,ws=>if r.ps=[]\/lt < nextS r+size then (r,ws) else slideF size slide lt n (stepR slide r) (ws++[(nextS r,(entR r).ps.take (entR r).inside)])
def leftS (lt:Int) (r:RunS):Nat:=if r.ps=[] then 0 else (lt+1 - nextS r).toNat
theorem stepR_next (slide lt size:Int) (r:RunS) (h0:r.ps ≠ []) (h1:1<=slide) (hz:1<=size) (hlt:nextS r+size<=lt):leftS lt (stepR slide r) < leftS lt r:=by
 unfold leftS
 rw [if_neg h0]
 by_cases he:(stepR slide r).ps=[]
 . rw [if_pos he];omega
 . rw [if_neg he]
   have hkey:nextS r < nextS (stepR slide r):=by
    obtain ⟨key,ps,ins,next⟩:=r
    generalize hs:nextS ⟨key,ps,ins,next⟩=s at *
    unfold stepR at he ⊢
    simp only [hs] at he ⊢
    unfold leaveS at he ⊢
    generalize hm:leaveM { entR ⟨key,ps,ins,next⟩ with next:=s+slide } (s+slide)=m at *
    simp only at he ⊢
    have hent:(entR ⟨key,ps,ins,next⟩).ps=ps:=rfl
    have heni:(entR ⟨key,ps,ins,next⟩).inside=enterN ps ins s:=by unfold entR;rw [hs]
    rw [hent] at he
    rw [heni]
    unfold nextS
    simp only
    split
    . omega
    . rename_i hz0
      have hml:m<=enterN ps ins s:=by
       rw [<- hm]
       unfold leaveM
       have:=(List.takeWhile_sublist (l:=List.take (entR ⟨key,ps,ins,next⟩).inside (entR ⟨key,ps,ins,next⟩).ps) (fun p:Pane=>decide (p.last < s+slide))).length_le
       rw [heni,List.length_take] at this
       simp only [heni]
       omega
      have hme:m=enterN ps ins s:=by omega
      rw [hent,hme]
      rw [hme] at he
      have hlt2:enterN ps ins s < ps.length:=by
       refine Nat.lt_of_not_le (fun hge=>he (List.drop_eq_nil_of_le hge))
      rw [List.drop_eq_getElem_cons hlt2]
      simp only
      have hstop:¬ (ps[enterN ps ins s]).first<=s:=by
       unfold enterN
       have hlen:=hlt2
       unfold enterN at hlen
       intro hle
       have h3:∀ (l:List Pane) (h:(l.takeWhile (fun p=>decide (p.first<=s))).length < l.length),¬ (l[(l.takeWhile (fun p=>decide (p.first<=s))).length]).first<=s:=by
        intro l
        induction l with
        | nil=>intro h;simp at h
        | cons a l ih=>
          intro h
          by_cases ha:a.first<=s
          . have hw:(a :: l).takeWhile (fun p=>decide (p.first<=s))=a :: l.takeWhile (fun p=>decide (p.first<=s)):=by simp [ha]
            simp only [hw,List.length_cons] at h ⊢
            simp only [List.getElem_cons_succ]
            exact ih (by omega)
          . have hw:(a :: l).takeWhile (fun p=>decide (p.first<=s))=[]:=by simp [ha]
            simp only [hw,List.length_nil,List.getElem_cons_zero]
            exact ha
       have hl2:((ps.drop ins).takeWhile (fun p=>decide (p.first<=s))).length < (ps.drop ins).length:=by rw [List.length_drop];omega
       have:=h3 (ps.drop ins) hl2
       rw [List.getElem_drop] at this
       exact this hle
      omega
   omega
theorem nextStart_any (d:RunD) (r:RunS) (w:World) (h:RunAt w d r) (h0:r.ps ≠ []) :
 Calls Tryz.prog 100 #[.pointer (some ⟨d.R,0,none⟩)] w fun e w'=>e=.returned (.int .i64 (nextS r))/\w'=w:=by
 obtain ⟨r0,r1o,r2,r3,r4,-⟩:=runAt h.run
 unfold nextS
 by_cases hi:0 < r.inside
 . have hi2:(0:Int) < (r.inside:Int):=by omega
   rw [if_pos hi]
   clear h
   go_enter Tryz.func100,Tryz.ntmps100
   go_wp2
   go_ret
   exact ⟨rfl,rfl⟩
 . have hi2:¬ (0:Int) < (r.inside:Int):=by omega
   have hl:0 < r.ps.length:=List.length_pos_iff.2 h0
   obtain ⟨P,M,p,pg,po,pc,hP,hp,hpv,hq,hpa⟩:=h.mid.pane 0 hl
   obtain ⟨c0,-⟩:=paneAt hpa.pane
   rw [Nat.add_zero] at hq
   have r1:w.cell? ⟨d.R,1,none⟩=some (.slice (some ⟨pg,po,none⟩) r.ps.length pc):=by rw [<- hpv];exact r1o
   have hl0:(0:Int) < (r.ps.length:Int):=by omega
   have HE:Hid ((match r.ps with | p :: _=>p.first | []=>0)=p.first):=by
    show _=_
    cases hps:r.ps with
    | nil=>exact absurd hps h0
    | cons x l=>rw [hps] at hp;simp only [List.getElem?_cons_zero,Option.some.injEq] at hp;rw [hp]
   rw [if_neg hi,HE.out]
   clear h r1o hpv hpa
   go_enter Tryz.func100,Tryz.ntmps100
   go_wp2
   go_ret
   exact ⟨rfl,rfl⟩
end Go.Proofs.YtcfngdnmpogaoaaGreat
namespace Go.Proofs.YtcfngdnmpogaoaaGreat
open Go.RowKit
variable {T:Option Int} {r:RunS} {size slide:Int}
structure RunVirt (size slide:Int) (T:Option Int) (r:RunS):Prop where
 sorted:Sorted r.ps
 pane:∀ p ∈ r.ps,p.evs ≠ []/\∀ e ∈ p.evs,e.key=r.key/\winFirst size slide e.t=p.first/\winLast slide e.t=p.last
 rem:∀ p ∈ r.ps,toldB T (p.last+size)=false
 ins:∀ (i:Nat) p,r.ps[i]?=some p->(i < r.inside ↔ toldB T (p.first+size)=true)
 insLe:r.inside<=r.ps.length
 nxt:0 < r.inside->∀ t,T=some t->r.next=down (t - size) slide+slide
theorem RunGood.virt (h:RunGood size slide T r):RunVirt size slide T r:=⟨h.sorted,h.pane,h.rem,h.ins,h.insLe,h.nxt⟩
theorem winFirst_dvd (size slide t:Int):slide ∣ winFirst size slide t:=by
 unfold winFirst
 exact Int.dvd_add (down_dvd _ _) (Int.dvd_refl _)
theorem RunVirt.bounds (h:RunVirt size slide T r) (h1:1<=slide) (h2:slide<=size) {p:Pane} (hp:p ∈ r.ps):slide ∣ p.first/\slide ∣ p.last/\p.first<=p.last:=by
 obtain ⟨hne,he⟩:=h.pane p hp
 obtain ⟨e,hm⟩:=List.exists_mem_of_ne_nil _ hne
 obtain ⟨-,e1,e2⟩:=he e hm
 rw [<- e1,<- e2]
 exact ⟨winFirst_dvd _ _ _,down_dvd _ _,winFirst_le_last size slide e.t h1 h2⟩
theorem RunVirt.mono (h:RunVirt size slide T r) (h1:1<=slide) {i j:Nat} {p q:Pane} (hi:r.ps[i]?=some p) (hj:r.ps[j]?=some q) (hij:i<=j):p.first<=q.first/\p.last<=q.last:=by
 by_cases he:i=j
 . subst he;rw [hi] at hj;cases hj;exact ⟨Int.le_refl _,Int.le_refl _⟩
 . have hlt:=cmpW_lt.1 (h.sorted i j p q (by omega) hi hj)
   rcases hlt with hlt | ⟨e1,e2⟩
   . obtain ⟨hne,he⟩:=h.pane p (List.mem_of_getElem? hi)
     obtain ⟨hne',he'⟩:=h.pane q (List.mem_of_getElem? hj)
     obtain ⟨e,hm⟩:=List.exists_mem_of_ne_nil _ hne
     obtain ⟨f,hm'⟩:=List.exists_mem_of_ne_nil _ hne'
     obtain ⟨-,a1,a2⟩:=he e hm
     obtain ⟨-,b1,b2⟩:=he' f hm'
     have hef:e.t<=f.t:=by
      refine Int.le_of_not_gt (fun hgt=>?_)
      have:=winFirst_mono size slide f.t e.t h1 (by omega)
      omega
     have:=winLast_mono slide e.t f.t h1 hef
     omega
   . omega
theorem toldB_some (t x:Int):toldB (some t) x=decide (x<=t):=rfl
theorem RunVirt.start (h:RunVirt size slide T r) (h1:1<=slide) (h2:slide<=size) (h0:r.ps ≠ []) :
 slide ∣ nextS r/\(∀ p ∈ r.ps,nextS r<=p.last)/\toldB T (nextS r+size)=false/\(∀ (i:Nat) p,r.ps[i]?=some p->i < r.inside->p.first<=nextS r)/\(∀ s,slide ∣ s->toldB T (s+size)=false->s < nextS r->∀ p ∈ r.ps,¬ p.first<=s)/\∃ p ∈ r.ps,p.first<=nextS r:=by
 have hlen:0 < r.ps.length:=List.length_pos_iff.2 h0
 have hp0:r.ps[0]?=some r.ps[0]:=List.getElem?_eq_getElem hlen
 have hm0:r.ps[0] ∈ r.ps:=List.getElem_mem hlen
 by_cases hi:0 < r.inside
 . have hn:nextS r=r.next:=by unfold nextS;rw [if_pos hi]
   have htold:=(h.ins 0 _ hp0).1 hi
   obtain ⟨t,rfl⟩:∃ t,T=some t:=by
    cases hT:T with
    | none=>rw [hT] at htold;cases htold
    | some t=>exact ⟨t,rfl⟩
   have hnx:=h.nxt hi t rfl
   obtain ⟨d1,d2⟩:=down_le (t - size) slide h1
   have hdv:=down_dvd (t - size) slide
   rw [hn,hnx]
   refine ⟨Int.dvd_add hdv (Int.dvd_refl _),fun p hp=>?_,?_,fun i p hpi hii=>?_,fun s hs ht hlt=>?_,r.ps[0],hm0,?_⟩
   . have hr:=h.rem p hp
     rw [toldB_some] at hr
     simp only [decide_eq_false_iff_not] at hr
     obtain ⟨-,b2,-⟩:=h.bounds h1 h2 hp
     exact mul_gap _ _ slide h1 hdv b2 (by omega)
   . rw [toldB_some];exact decide_eq_false (by omega)
   . have:=(h.ins i p hpi).1 hii
     rw [toldB_some] at this
     simp only [decide_eq_true_eq] at this
     omega
   . rw [toldB_some] at ht
     simp only [decide_eq_false_iff_not] at ht
     have hge:down (t - size) slide < s:=by omega
     have:=mul_gap _ _ slide h1 hdv hs hge
     omega
   . rw [toldB_some] at htold
     simp only [decide_eq_true_eq] at htold
     omega
 . have hn:nextS r=r.ps[0].first:=by
    unfold nextS
    rw [if_neg hi]
    obtain ⟨key,ps,ins,nx⟩:=r
    cases ps with
    | nil=>exact absurd rfl h0
    | cons p l=>rfl
   obtain ⟨b1,-,-⟩:=h.bounds h1 h2 hm0
   have hfirst:∀ p ∈ r.ps,r.ps[0].first<=p.first:=fun p hp=>by
    obtain ⟨j,hj,rfl⟩:=List.mem_iff_getElem.1 hp
    exact (h.mono h1 hp0 (List.getElem?_eq_getElem hj) (Nat.zero_le _)).1
   rw [hn]
   refine ⟨b1,fun p hp=>?_,?_,fun i p hpi hii=>by omega,fun s hs ht hlt p hp hle=>?_,r.ps[0],hm0,Int.le_refl _⟩
   . obtain ⟨-,-,b3⟩:=h.bounds h1 h2 hp
     have:=hfirst p hp
     omega
   . cases hT:toldB T (r.ps[0].first+size) with
     | false=>rfl
     | true=>exact absurd ((h.ins 0 _ hp0).2 hT) hi
   . have:=hfirst p hp
     omega
theorem RunVirt.entered (h:RunVirt size slide T r) (h1:1<=slide) (h2:slide<=size) (h0:r.ps ≠ []):(entR r).inside<=r.ps.length/\∀ (i:Nat) p,r.ps[i]?=some p->(i < (entR r).inside ↔ p.first<=nextS r):=by
 obtain ⟨-,-,-,hin,-,-⟩:=h.start h1 h2 h0
 have hkey:∀ (l:List Pane) (s:Int),(∀ (i j:Nat) p q,l[i]?=some p->l[j]?=some q->i<=j->p.first<=q.first)->∀ (i:Nat) p,l[i]?=some p->(i < (l.takeWhile (fun p=>decide (p.first<=s))).length ↔ p.first<=s):=by
  intro l s
  induction l with
  | nil=>intro _ i p hp;simp at hp
  | cons a l ih=>
    intro hm i p hp
    by_cases ha:a.first<=s
    . rw [List.takeWhile_cons]
      simp only [ha,decide_true,if_true,List.length_cons]
      cases i with
      | zero=>simp at hp;subst hp;simp [ha]
      | succ i=>
        rw [Nat.add_lt_add_iff_right]
        exact ih (fun i j p q hi hj hij=>hm (i+1) (j+1) p q (by simpa using hi) (by simpa using hj) (by omega)) i p (by simpa using hp)
    . rw [List.takeWhile_cons]
      simp only [ha,decide_false,Bool.false_eq_true,if_false,List.length_nil]
      constructor
      . intro hh;omega
      . intro hh
        have:=hm 0 i a p rfl hp (Nat.zero_le _)
        omega
 have hE:(entR r).inside=r.inside+((r.ps.drop r.inside).takeWhile (fun p=>decide (p.first<=nextS r))).length:=rfl
 refine ⟨?_,fun i p hp=>?_⟩
 . rw [hE]
   have:=(List.takeWhile_sublist (l:=r.ps.drop r.inside) (fun p=>decide (p.first<=nextS r))).length_le
   rw [List.length_drop] at this
   have:=h.insLe
   omega
 . rw [hE]
   by_cases hi:i < r.inside
   . exact ⟨fun _=>hin i p hp hi,fun _=>by omega⟩
   . have hd:(r.ps.drop r.inside)[i - r.inside]?=some p:=by
      rw [List.getElem?_drop,show r.inside+(i - r.inside)=i from by omega];exact hp
     have:=hkey (r.ps.drop r.inside) (nextS r) (fun a b x y hx hy hab=>(h.mono h1 (by rw [List.getElem?_drop] at hx;exact hx) (by rw [List.getElem?_drop] at hy;exact hy) (by omega)).1) (i - r.inside) p hd
     rw [<- this]
     omega
end Go.Proofs.YtcfngdnmpogaoaaGreat
