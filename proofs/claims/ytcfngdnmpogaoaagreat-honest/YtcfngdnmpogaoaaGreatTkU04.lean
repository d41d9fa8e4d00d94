import Derived.Test.YtcfngdnmpogaoaaGreatTkT02
namespace Go.Proofs.YtcfngdnmpogaoaaGreat
open Go.RowKit
variable {W w:World} {c:Array Value} {e e' t:TypeId} {f:Nat × Nat} {g sz:Nat} {news xs:List Value} {v v' x0 x1 x2 x3 y:Value}
set_option maxHeartbeats 1600000
set_option maxRecDepth 20000
theorem info42:(Tryz.prog.info? 26).map (fun i=>(i.zero,i.size,i.bytes))=some (some (.int .u32 0),1,4):=by kernel_rfl
theorem info133:(Tryz.prog.info? 70).map (fun i=>(i.zero,i.size,i.bytes))=some (some (.agg #[.string ⟨#[]⟩,.int .i64 0,.int .i64 0,.int .i64 0,.int .i64 0,.int .i64 0,.slice none 0 0]),7,80):=by kernel_rfl
theorem put0 (h:w.heap[g]?=some (.cells #[x0,x1,x2,x3] t (0,0))):(w.setCell ⟨g,0,none⟩ y).heap[g]?=some (.cells #[y,x1,x2,x3] t (0,0)):=heap_setCell_same w g 0 _ t y h
theorem put1 (h:w.heap[g]?=some (.cells #[x0,x1,x2,x3] t (0,0))):(w.setCell ⟨g,1,none⟩ y).heap[g]?=some (.cells #[x0,y,x2,x3] t (0,0)):=heap_setCell_same w g 1 _ t y h
theorem put2 (h:w.heap[g]?=some (.cells #[x0,x1,x2,x3] t (0,0))):(w.setCell ⟨g,2,none⟩ y).heap[g]?=some (.cells #[x0,x1,y,x3] t (0,0)):=heap_setCell_same w g 2 _ t y h
theorem put3 (h:w.heap[g]?=some (.cells #[x0,x1,x2,x3] t (0,0))):(w.setCell ⟨g,3,none⟩ y).heap[g]?=some (.cells #[x0,x1,x2,y] t (0,0)):=heap_setCell_same w g 3 _ t y h
def Stand (e:TypeId) (sz:Nat) (v:Value) (len:Nat) (w W:World):Prop:=∀ u ys,Row w e sz u ys->(u.ownBlock=v.ownBlock->offOf u=offOf v/\ys.length<=len)->Row W e sz u ys
def Stepped (w:World) (v v':Value):Prop:=(v'.ownBlock=v.ownBlock/\offOf v'=offOf v)\/∃ k,v'.ownBlock=some k/\w.heap.size<=k
theorem App.other {w':World} {o:Obj} (h:App (W.alloc o) w' e sz v v' xs news) (hrow:Row W e sz v xs) (hg:W.heap[g]?=some (.cells c e' f)) (hne:e ≠ e'):w'.heap[g]?=some (.cells c e' f):=by
 have hgW:=(Array.getElem?_eq_some_iff.1 hg).1
 rw [h.grown.block g (by simp;omega) (fun e=>hrow.ne_block hg hne e.symm),Below.heap_alloc _ _ _ hgW];exact hg
structure Grew (g:Nat) (w W:World) (e:TypeId) (sz:Nat) (v v':Value) (xs news:List Value):Prop where
 row:Row W e sz v' (xs++news)
 kept:Kept (fun k=>v.ownBlock=some k\/k=g) w W
 step:Stepped w v v'
 stand:Stand e sz v xs.length w W
theorem Grew.of {j:Nat} {u:Value} {W2:World} {o:Obj} (h:App (w.alloc o) W2 e sz v v' xs news) (hg:W2.heap[g]?=some (.cells c e' f)) (hne:e ≠ e') :
 Grew g w (W2.setCell ⟨g,j,none⟩ u) e sz v v' xs news:=by
 refine ⟨h.row.setCell _ _ (h.row.ne_block hg hne),?_,?_,?_⟩
 . exact ((((Kept.refl _ w).alloc o).step (Kept.ofGrown h.grown) (fun _ _ h=>.inl h))).setCell _ _ (fun _=>.inr rfl)
 . rcases h.step with h' | ⟨h',_⟩
   . exact .inl h'
   . exact .inr ⟨_,h',by simp⟩
 . intro u ys hu hp
   have hu':=h.old u ys (hu.alloc o) hp
   exact hu'.setCell _ _ (hu'.ne_block hg hne)
theorem Grew.undrew (h:Grew g w.drew W e sz v v' xs news):Grew g w W e sz v v' xs news:=
 ⟨h.row,⟨h.kept.os,h.kept.tape,h.kept.output,h.kept.size,h.kept.block⟩,h.step,h.stand⟩
theorem Row.through {e'':TypeId} {sz':Nat} {u:Value} {ys:List Value} (hu:Row w e sz u ys) (hgr:Grew g w W e' sz' v v' xs news) (hv:Row w e' sz' v xs) (hg:w.heap[g]?=some (.cells c e'' f)) (h1:e ≠ e') (h2:e ≠ e''):Row W e sz u ys:=
 hu.kept hgr.kept (fun k hk=>by rintro (h | h);exact hu.apart hv h1 hk h;(subst h;exact hu.ne_block hg h2 hk))
theorem many_new (w:World) (xs:List Value) (e:TypeId):∀ (j:Nat) (u:Value),xs[j]?=some u->(w.alloc (.cells xs.toArray e)).cell? ((⟨w.heap.size,0,none⟩:Addr).add j)=some u:=by
 intro j u hu
 rw [Addr.add_lit,cell_of_row _ _ _ _ _ _ (heap_alloc_new w _)]
 simpa using hu
theorem Stepped.mono {w':World} (h:Stepped w' v v') (hs:w.heap.size<=w'.heap.size):Stepped w v v':=h.imp id (fun ⟨k,h1,h2⟩=>⟨k,h1,Nat.le_trans hs h2⟩)
structure Longer (w W:World) (d d':HoldD):Prop where
 hold:Hold W d'
 fresh:w.heap.size<=d'.hb
 same:d'.m=d.m/\d'.nb=d.nb+1/\d'.nt=d.nt+1/\d'.nw=d.nw+1
 kept:Kept (fun k=>d.vb.ownBlock=some k\/d.vt.ownBlock=some k\/d.vw.ownBlock=some k) w W
 sb:Stand 5 1 d.vb d.nb w W
 st:Stand 26 1 d.vt d.nt w W
 sw:Stand 70 7 d.vw (d.nw*7) w W
 pb:Stepped w d.vb d'.vb
 pt:Stepped w d.vt d'.vt
 pw:Stepped w d.vw d'.vw
theorem longer_any (hb:Nat) (m:Int) (nb nt nw:Nat) (vb vt vw:Value) (w:World) (h:Hold w ⟨hb,m,nb,nt,nw,vb,vt,vw⟩) (h1:nb+1<=140737488355328) (h2:nt+1<=35184372088832) (h3:nw+1<=1759218604441) :
 Calls Tryz.prog 83 #[.pointer (some ⟨hb,0,none⟩)] w fun e w'=>∃ d',e=.returned (.pointer (some ⟨d'.hb,0,none⟩))/\Longer w w' ⟨hb,m,nb,nt,nw,vb,vt,vw⟩ d':=by
 obtain ⟨i5,hi5,hz50,hz51,hz52⟩:=info_parts info5
 obtain ⟨i42,hi42,hz420,hz421,hz422⟩:=info_parts info42
 obtain ⟨i133,hi133,hz1330,hz1331,hz1332⟩:=info_parts info133
 obtain ⟨hblk,hrb,hrt,hrw,lb,lt,lw⟩:=h
 simp only at hblk hrb hrt hrw lb lt lw ⊢
 obtain ⟨c0,c1,c2,c3,-,hlt⟩:=hold_cells hblk
 obtain ⟨ab,cb,hvb,-⟩:=hrb.len (by decide)
 rw [signs_len,Nat.div_one] at hvb
 subst hvb
 go_enter Tryz.func83,Tryz.ntmps83
 go_wp2
 go_quiet ((go_at_call 86;exact Calls.quiet_of_same (sign_any _ _ _)))
 have hk0:Kept (fun _=>False) w ((w.alloc (.cells #[.slice none 0 0,.slice none 0 0,.slice none 0 0,.int .i64 m] 135)).drewN nq):=((Kept.refl _ w).alloc _).drewN nq
 have hg0:((w.alloc (.cells #[.slice none 0 0,.slice none 0 0,.slice none 0 0,.int .i64 m] 135)).drewN nq).heap[w.heap.size]?=some (.cells #[.slice none 0 0,.slice none 0 0,.slice none 0 0,.int .i64 m] 135 (0,0)):=by
  rw [(below_drewN (Below.refl (w.heap.size+1) (w.alloc (.cells #[.slice none 0 0,.slice none 0 0,.slice none 0 0,.int .i64 m] 135))) nq).block _ (by omega)]
  exact heap_alloc_new w _
 generalize (w.alloc (.cells #[.slice none 0 0,.slice none 0 0,.slice none 0 0,.int .i64 m] 135)).drewN nq=W0 at *
 generalize hgg:w.heap.size=g at *
 clear c0 c1 c2 c3
 have hblk0:=(hk0.block hb (by omega) id).trans hblk
 have hrb0:=hrb.kept hk0 (fun _ _=>id)
 have hrt0:=hrt.kept hk0 (fun _ _=>id)
 have hrw0:=hrw.kept hk0 (fun _ _=>id)
 obtain ⟨c0,c1,c2,c3,-,-⟩:=hold_cells hblk0
 obtain ⟨d0,d1,d2,d3,fg,hgW⟩:=hold_cells hg0
 generalize hvb:Value.slice ab nb cb=vb at *
 have Hvb:=hid hvb
 clear hvb
 have hsx:signs m nb++[.int .u8 (signZ m (nb:Int))]=signs m (nb+1):=(signs_snoc m nb).symm
 have HX:=hid hsx
 have hlen:=signs_len m nb
 generalize hxs:signs m nb=xs at *
 have Hxs:=hid hxs
 clear hsx hxs
 generalize signZ m (nb:Int)=sg at *
 go_wp2_with (at_builtin;go_must (refine wpList_append _ rfl _ _ _ _ rfl 5 i5 (.int .u8 0) 1 1 Tryz.underlying30 hi5 hz50 hz51 hz52 rfl Nat.one_pos vb xs rfl (hrb0.alloc _) (.slice (some ⟨W0.heap.size,0,none⟩) 1 1) 1 [.int .u8 sg] rfl ?hsrc Nat.one_pos ?h63 ?hby ?next))
 case hsrc=>exact Src.ofSlice _ Tryz.underlying30 ⟨W0.heap.size,0,none⟩ 1 1 _ rfl (one_new W0 _ _) (by simp [Value.oneCell'])
 case h63=>simp only [maxLen];omega
 case hby=>omega
 intro v1 w1 ha1
 have hg1:w1.heap[g]?=some (.cells #[.slice none 0 0,.slice none 0 0,.slice none 0 0,.int .i64 m] 135 (0,0)):=by
  rw [ha1.grown.block g (by simp;omega) (fun e=>hrb0.ne_block hg0 (by decide) e.symm),Below.heap_alloc _ _ _ hgW];exact hg0
 obtain ⟨e0,e1,e2,e3,fg1,hgw1⟩:=hold_cells hg1
 clear c0 c1 c2 c3 d0 d1 d2 d3 fg
 obtain ⟨g1,o1,n1,k1,hv1,-,-⟩:=ha1.row.shape (by simp)
 subst hv1
 go_wp2
 generalize Value.slice (some ⟨g1,o1,none⟩) n1 k1=v1 at *
 have hgr1:Grew g W0 (w1.setCell ⟨g,0,none⟩ v1) 5 1 vb v1 xs [.int .u8 sg]:=Grew.of ha1 hg1 (by decide)
 have hg2:=put0 (y:=v1) hg1
 clear ha1 hg1 hgw1
 clear e0 e1 e2 e3 fg1
 generalize w1.setCell ⟨g,0,none⟩ v1=W2 at *
 have hblk2:W2.heap[hb]?=some (.cells #[vb,vt,vw,.int .i64 m] 135 (0,0)):=(hgr1.kept.block hb (by omega) (by rintro (h | h);exact hrb0.ne_block hblk0 (by decide) h;omega)).trans hblk0
 have hrt2:Row W2 26 1 vt (tagsOf m nt):=hrt0.kept hgr1.kept (fun k hk=>by rintro (h | h);exact hrt0.apart hrb0 (by decide) hk h;(subst h;exact hrt0.ne_block hg0 (by decide) hk))
 have hrw2:Row W2 70 7 vw (winOf m nw):=hrw0.kept hgr1.kept (fun k hk=>by rintro (h | h);exact hrw0.apart hrb0 (by decide) hk h;(subst h;exact hrw0.ne_block hg0 (by decide) hk))
 obtain ⟨-,c1,-,c3,-,hbW⟩:=hold_cells hblk2
 obtain ⟨-,d1,-,-,fg,hgW2⟩:=hold_cells hg2
 have HT:=hid ((tagsOf_snoc m nt).symm)
 have hlt2:=tagsOf_len m nt
 generalize tagsOf m nt=ts at *
 have hum:IntKind.u32.wrap m=u32of m:=rfl
 generalize u32of m=um at *
 have Hum:=hid hum
 have hgh:¬ hb=g:=by omega
 have hgh':¬ g=hb:=by omega
 go_region_held3 (fun W=>W.cell? ⟨hb,1,none⟩=some vt/\W.cell? ⟨hb,3,none⟩=some (.int .i64 m)) (go_keep) (first
  | (refine step_append rfl _ _ _ _ rfl 26 i42 (.int .u32 0) 1 4 Tryz.underlying68 hi42 hz420 hz421 hz422 rfl Nat.one_pos vt ts rfl ?_ (.slice (some ⟨W2.heap.size,0,none⟩) 1 1) 1 [.int .u32 um] rfl ?_ Nat.one_pos ?_ ?_ ?_;exact hrt2.alloc _;exact Src.ofSlice _ Tryz.underlying68 ⟨W2.heap.size,0,none⟩ 1 1 _ rfl (one_new W2 _ _) (by simp [Value.oneCell']);(simp only [maxLen];omega);omega;intro v2 w3 ha2
     have hb3:=App.other (W:=W2.drew) ha2 hrt2 hblk2 (by decide)
     have hg3:=App.other (W:=W2.drew) ha2 hrt2 hg2 (by decide)
     obtain ⟨-,f1,-,f3,-,-⟩:=hold_cells hb3
     obtain ⟨-,e1,-,-,fg3,hgW3⟩:=hold_cells hg3
     obtain ⟨g2,o2,n2,k2,hv2,-,-⟩:=ha2.row.shape (by simp)
     subst hv2))
 generalize Value.slice (some ⟨g2,o2,none⟩) n2 k2=v2 at *
 have hgr2:Grew g W2 (w3.setCell ⟨g,1,none⟩ v2) 26 1 vt v2 ts [.int .u32 um]:=(Grew.of (w:=W2.drew) ha2 hg3 (by decide)).undrew
 have hg4:=put1 (y:=v2) hg3
 have hblk4:(w3.setCell ⟨g,1,none⟩ v2).heap[hb]?=some (.cells #[vb,vt,vw,.int .i64 m] 135 (0,0)):=(hgr2.kept.block hb (by omega) (by rintro (h | h);exact hrt2.ne_block hblk2 (by decide) h;omega)).trans hblk2
 have hrw4:Row (w3.setCell ⟨g,1,none⟩ v2) 70 7 vw (winOf m nw):=hrw2.kept hgr2.kept (fun k hk=>by rintro (h | h);exact hrw2.apart hrt2 (by decide) hk h;(subst h;exact hrw2.ne_block hg2 (by decide) hk))
 have hr14:Row (w3.setCell ⟨g,1,none⟩ v2) 5 1 v1 (xs++[.int .u8 sg]):=hgr1.row.kept hgr2.kept (fun k hk=>by rintro (h | h);exact hgr1.row.apart hrt2 (by decide) hk h;(subst h;exact hgr1.row.ne_block hg2 (by decide) hk))
 clear ha2 hb3 hg3 f1 f3 e1 fg3 hgW3 c1 c3 d1 fg hblk2 hblk0
 generalize w3.setCell ⟨g,1,none⟩ v2=W4 at *
 obtain ⟨-,-,c2,c3,-,hbW4⟩:=hold_cells hblk4
 obtain ⟨-,-,d2,-,fg,hgW4⟩:=hold_cells hg4
 have HW:=hid ((winOf_snoc m nw).symm)
 have hlw2:=winOf_len m nw
 have hneg:IntKind.i64.wrap (-m)=wrap64 (-m):=IntWalk.i64_left _
 have HN:Hid (winCells m=[.string ⟨#[]⟩,.int .i64 0,.int .i64 (wrap64 (-m)),.int .i64 0,.int .i64 0,.int .i64 0,.slice none 0 0]):=rfl
 generalize winOf m nw=ws at *
 generalize wrap64 (-m)=NM at *
 clear hum
 go_wp2_with fail
 go_region_held3 (fun W=>W.cell? ⟨hb,2,none⟩=some vw/\W.cell? ⟨hb,3,none⟩=some (.int .i64 m)) (go_keep) (first
  | (refine step_append rfl _ _ _ _ rfl 70 i133 _ 7 80 Tryz.underlying54 hi133 hz1330 hz1331 hz1332 rfl (by decide) vw ws rfl ?_ (.slice (some ⟨W4.heap.size,0,none⟩) 1 1) 1 [.string ⟨#[]⟩,.int .i64 0,.int .i64 NM,.int .i64 0,.int .i64 0,.int .i64 0,.slice none 0 0] rfl ?_ Nat.one_pos ?_ ?_ ?_;exact hrw4.alloc _;exact Src.ofSlice _ Tryz.underlying54 ⟨W4.heap.size,0,none⟩ 1 1 _ rfl (many_new W4 _ _) (by simp [Value.oneCell']);(simp only [maxLen];omega);omega;intro v3 w5 ha3
     have hb5:=App.other (W:=W4.drew) ha3 hrw4 hblk4 (by decide)
     have hg5:=App.other (W:=W4.drew) ha3 hrw4 hg4 (by decide)
     obtain ⟨-,-,f2,f3,-,-⟩:=hold_cells hb5
     obtain ⟨-,-,e2,-,fg5,hgW5⟩:=hold_cells hg5
     obtain ⟨g3,o3,n3,k3,hv3,-,-⟩:=ha3.row.shape (by simp)
     subst hv3))
 generalize Value.slice (some ⟨g3,o3,none⟩) n3 k3=v3 at *
 have hgr3:Grew g W4 (w5.setCell ⟨g,2,none⟩ v3) 70 7 vw v3 ws [.string ⟨#[]⟩,.int .i64 0,.int .i64 NM,.int .i64 0,.int .i64 0,.int .i64 0,.slice none 0 0]:=(Grew.of (w:=W4.drew) ha3 hg5 (by decide)).undrew
 have hg6:=put2 (y:=v3) hg5
 have hr16:=hr14.through hgr3 hrw4 hg4 (by decide) (by decide)
 have hr26:=hgr2.row.through hgr3 hrw4 hg4 (by decide) (by decide)
 have hr36:=hgr3.row
 rw [<- HN.out,HW.out] at hr36
 rw [HT.out] at hr26
 rw [HX.out] at hr16
 have hL:Longer w (w5.setCell ⟨g,2,none⟩ v3) ⟨hb,m,nb,nt,nw,vb,vt,vw⟩ ⟨g,m,nb+1,nt+1,nw+1,v1,v2,v3⟩:=by
  refine ⟨⟨hg6,hr16,hr26,hr36,by simp only;omega,by simp only;omega,by simp only;omega⟩,by simp only;omega,⟨rfl,rfl,rfl,rfl⟩,?_,?_,?_,?_,?_,?_,?_⟩
  . have hh:=((hk0.mono (Y:=fun k=>vb.ownBlock=some k\/vt.ownBlock=some k\/vw.ownBlock=some k) (fun _ _ h=>h.elim)).step hgr1.kept (fun k hk=>by rintro (h | h);exact .inl h;omega)).step hgr2.kept (fun k hk=>by rintro (h | h);exact .inr (.inl h);omega)
    exact hh.step hgr3.kept (fun k hk=>by rintro (h | h);exact .inr (.inr h);omega)
  . intro u ys hu hp
    simp only at hp
    have u0:=hu.kept hk0 (fun _ _=>id)
    have u2:=hgr1.stand u ys u0 (fun e=>by rw [hlen];exact hp e)
    exact (u2.through hgr2 hrt2 hg2 (by decide) (by decide)).through hgr3 hrw4 hg4 (by decide) (by decide)
  . intro u ys hu hp
    simp only at hp
    have u0:=hu.kept hk0 (fun _ _=>id)
    have u2:=u0.through hgr1 hrb0 hg0 (by decide) (by decide)
    have u4:=hgr2.stand u ys u2 (fun e=>by rw [hlt2];exact hp e)
    exact u4.through hgr3 hrw4 hg4 (by decide) (by decide)
  . intro u ys hu hp
    simp only at hp
    have u0:=hu.kept hk0 (fun _ _=>id)
    have u2:=u0.through hgr1 hrb0 hg0 (by decide) (by decide)
    have u4:=u2.through hgr2 hrt2 hg2 (by decide) (by decide)
    exact hgr3.stand u ys u4 (fun e=>by rw [hlw2];exact hp e)
  . exact hgr1.step.mono hk0.size
  . exact hgr2.step.mono (Nat.le_trans hk0.size hgr1.kept.size)
  . exact hgr3.step.mono (Nat.le_trans hk0.size (Nat.le_trans hgr1.kept.size hgr2.kept.size))
 have HL:=hid hL
 clear hL
 generalize w5.setCell ⟨g,2,none⟩ v3=W6 at *
 go_wp2
 go_ret
 exact ⟨⟨g,m,nb+1,nt+1,nw+1,v1,v2,v3⟩,rfl,by rw [Hvb.out];exact HL.out⟩
end Go.Proofs.YtcfngdnmpogaoaaGreat
