import Derived.Test.YtcfngdnmpogaoaaGreatTkU31
import Derived.Test.YtcfngdnmpogaoaaGreatTkU32
import Derived.Test.YtcfngdnmpogaoaaGreatTkU33
import Derived.Test.YtcfngdnmpogaoaaGreatTkU28
namespace Go.Proofs.YtcfngdnmpogaoaaGreat
open Go.RowKit Go.MuLone
set_option maxHeartbeats 6400000
set_option maxRecDepth 20000
theorem infoPl:(Tryz.prog.info? 125).map (fun i=>(i.zero,i.size,i.bytes))=some (some (.pointer none),1,8):=by kernel_rfl
theorem CfOk.of {size slide late keys:Int} (h:isConf size slide late keys):CfOk ⟨size,slide,late,keys⟩:=by
 obtain ⟨h1,h2,h3,h4,h5,h6,h7,h8⟩:=h
 refine ⟨h1,h2,h3,h5,h6,?_⟩
 show size<=4096*slide
 have hg1:0 < Nat.gcd size.toNat slide.toNat:=Nat.gcd_pos_of_pos_left _ (by omega)
 have hg2:Nat.gcd size.toNat slide.toNat<=slide.toNat:=Nat.gcd_le_right _ (by omega)
 have hd:Nat.gcd size.toNat slide.toNat ∣ size.toNat:=Nat.gcd_dvd_left _ _
 generalize Nat.gcd size.toNat slide.toNat=G at *
 obtain ⟨k,hk⟩:=hd
 have hsz:size=(G:Int)*(k:Int):=by
  have:(size.toNat:Int)=size:=by omega
  rw [<- this,hk];exact Int.natCast_mul G k
 have hdv:size / (G:Int)=(k:Int):=by rw [hsz,Int.mul_ediv_cancel_left _ (by omega)]
 rw [hdv] at h4
 have h9:(G:Int)*(k:Int)<=(G:Int)*4096:=Int.mul_le_mul_of_nonneg_left h4 (by omega)
 omega
theorem WInv.players {W W':World} {bw:Nat} {ps ps' hv:Value} {hs:List HoldD} {ptrs:List Value} (h:WInv W bw ps hv hs) (hr:Row W 125 1 ps ptrs) (hk:Kept (fun k=>k=bw\/ps.ownBlock=some k) W W') (hb:W'.heap[bw]?=some (.cells #[ps',hv] 84 (0,0))):WInv W' bw ps' hv hs:=by
 refine ⟨hb,h.row.kept hk (fun k hq hh=>?_),fun d hd=>?_⟩
 . rcases hh with rfl | hh
   . exact h.row.ne_block h.blk (by decide) hq
   . exact h.row.apart hr (by decide) hq hh
 . have hh:=h.holds d hd
   refine hh.kept hk (fun e=>?_) (fun k hq e=>?_) (fun k hq e=>?_) (fun k hq e=>?_)
   . rcases e with e | e
     . have:=h.blk;rw [<- e,hh.blk] at this;simp at this
     . exact hr.ne_block hh.blk (by decide) e
   . rcases e with rfl | e
     . exact hh.rb.ne_block h.blk (by decide) hq
     . exact hh.rb.apart hr (by decide) hq e
   . rcases e with rfl | e
     . exact hh.rt.ne_block h.blk (by decide) hq
     . exact hh.rt.apart hr (by decide) hq e
   . rcases e with rfl | e
     . exact hh.rw_.ne_block h.blk (by decide) hq
     . exact hh.rw_.apart hr (by decide) hq e
theorem free_new (own:Nat->Nat) (w:World) (bw:Nat) (ps hv:Value) (hs:List HoldD) (pls:List PlD) (fed:Nat) (o:OpD) (h:Good own w bw ps hv hs pls fed) (hk:o.kind=3) :
 Calls Tryz.prog 53 #[.pointer (some ⟨bw,0,none⟩),.agg o.cells] w (StepL own bw hs (toldS pls) (fed+o.s.size) w):=by
 obtain ⟨i,hi,hz0,hz1,hz2⟩:=info_parts infoPl
 have HG:=hid h
 have hmany:=h.many
 have hpl:=h.inv.prow
 have hplen:(plPtrs pls).length=pls.length:=by unfold plPtrs;rw [List.length_map]
 obtain ⟨pa,pc,hpv,-⟩:=hpl.len (by decide)
 rw [hplen,Nat.div_one] at hpv
 subst hpv
 obtain ⟨c0,-,-,hbw⟩:=world_cells h.inv.inv.blk
 have HB:Hid (∀ W,Below (w.heap.size+1) (w.alloc (.cells o.cells 79)) W->∀ j,W.cell? ⟨w.heap.size,j,none⟩=o.cells[j]?):=fun W hW j=>op_box hW (by omega) j
 clear h hpl
 obtain ⟨kind,n,source,s,ik,ikey,itime,ivalue,itag,q0,q1,q2,q3⟩:=o
 simp only [OpD.cells] at *
 subst hk
 by_cases hc:isConf q0 q1 q2 q3
 . have hnew:=new_on q0 q1 q2 q3 (w.alloc (.cells #[.int .i64 3,.int .i64 n,.int .i64 source,.string s,.int .i64 ik,.string ikey,.int .i64 itime,.int .i64 ivalue,.int .u32 (itag:Int),.int .i64 q0,.int .i64 q1,.int .i64 q2,.int .i64 q3] 79)) hc
   go_enter Tryz.func53,Tryz.ntmps53
   go_wp2_with fail
   refine hnew.mono ?_
   rintro e W1 ⟨g,hg1,rfl,hfl,hb1⟩
   simp only [World.size_alloc] at hg1 hb1
   have hq:=HB.out W1 hb1
   have p9:=hq 9
   have p10:=hq 10
   have p11:=hq 11
   have p12:=hq 12
   simp only [List.getElem?_toArray,List.getElem?_cons_zero,List.getElem?_cons_succ] at p9 p10 p11 p12
   have hb01:Below w.heap.size w W1:=((Below.refl _ w).alloc (Nat.le_refl _) _).trans (hb1.mono (by omega))
   have Hfl:=hid hfl
   have hs1:=hb1.size
   simp only [World.size_alloc] at hs1
   clear hq hfl hnew hb1
   go_wp2_with fail
   refine (rnew_any q0 q1 q2 q3 W1).mono ?_
   rintro e W2 ⟨hb2,hor⟩
   obtain ⟨g2,hg2,rfl,hblk⟩:∃ g,W1.heap.size<=g/\e=.returned (.tuple #[.pointer (some ⟨g,0,none⟩),.int .i64 0])/\W2.heap[g]?=some (.cells (RCells.new q0 q1 q2 q3).cells.toArray 140):=by
    rcases hor with ⟨hh,_⟩ | ⟨_,hh⟩
    . exact absurd hc hh
    . exact hh
   clear hor
   have hb02:Below w.heap.size w W2:=hb01.trans (hb2.mono (by omega))
   have Hfl2:=hid (Hfl.out.below hb2)
   have Href:=hid (ref_new W2 g2 ⟨q0,q1,q2,q3⟩ hblk)
   have hgW1:g < W1.heap.size:=by
    obtain ⟨us,⟨st,⟨rr,gs,es,h3,-⟩,-⟩,-⟩:=Hfl.out
    exact h3.lt (.inl rfl)
   have hfr:g ≠ g2:=by omega
   have hs2:=hb2.size
   have hc0:W2.cell? ⟨bw,0,none⟩=some (.slice pa pls.length pc):=(hb02.cell (p:=⟨bw,0,none⟩) hbw).trans c0
   have HB02:=hid hb02
   clear p9 p10 p11 p12 hb01 hb2 Hfl hblk c0 hb02
   by_cases h4:pls.length < 4
   . have h4i:(pls.length:Int) < 4:=by omega
     have HP2:=hid (HG.out.inv.below HB02.out)
     have hrowp:=HP2.out.prow
     have HrowA:Hid (Row (W2.alloc (.cells #[.pointer (some ⟨g,0,none⟩),.pointer (some ⟨g2,0,none⟩)] 128)) 125 1 (.slice pa pls.length pc) (plPtrs pls)):=hrowp.alloc _
     have Hplen:=hid hplen
     have hbwB:W2.heap[bw]?=some (.cells #[.slice pa pls.length pc,hv] 84 (0,0)):=HP2.out.inv.blk
     have hbwB2:(W2.alloc (.cells #[.pointer (some ⟨g,0,none⟩),.pointer (some ⟨g2,0,none⟩)] 128)).heap[bw]?=some (.cells #[.slice pa pls.length pc,hv] 84 (0,0)):=by
      rw [Below.heap_alloc _ _ _ (by omega)];exact hbwB
     clear hplen hrowp
     have hp4:(plPtrs pls).length<=4:=by rw [Hplen.out];omega
     generalize hptrs:plPtrs pls=ptrs at *
     have Hptrs:=hid hptrs
     clear hptrs
     go_wp2_with (at_builtin;go_must (refine wpList_append _ rfl _ _ _ _ rfl 125 i (.pointer none) 1 8 Tryz.underlying81 hi hz0 hz1 hz2 rfl Nat.one_pos (.slice pa pls.length pc) ptrs rfl (HrowA.out.alloc _) (.slice (some ⟨W2.heap.size+1,0,none⟩) 1 1) 1 [.pointer (some ⟨W2.heap.size,0,none⟩)] rfl ?hsrc Nat.one_pos ?h63 ?hby ?next))
     case hsrc=>exact Src.ofSlice _ Tryz.underlying81 ⟨W2.heap.size+1,0,none⟩ 1 1 _ rfl (fun j u hu=>by cases j with | zero=>(simp only [List.getElem?_cons_zero,Option.some.injEq] at hu;subst hu;exact blkCell (two_new W2 _ _).2 rfl) | succ j=>simp at hu) (by simp [Value.oneCell'])
     case h63=>simp only [maxLen];omega
     case hby=>omega
     intro v1 w1 ha1
     have hbb:=App.other ha1 HrowA.out hbwB2 (by decide)
     obtain ⟨e0,e1,fw1,-⟩:=world_cells hbb
     obtain ⟨g1,o1,n1,k1,hv1,-,-⟩:=ha1.row.shape (by simp)
     subst hv1
     have hgr:Grew bw (W2.alloc (.cells #[.pointer (some ⟨g,0,none⟩),.pointer (some ⟨g2,0,none⟩)] 128)) (w1.setCell ⟨bw,0,none⟩ (.slice (some ⟨g1,o1,none⟩) n1 k1)) 125 1 (.slice pa pls.length pc) (.slice (some ⟨g1,o1,none⟩) n1 k1) ptrs [.pointer (some ⟨W2.heap.size,0,none⟩)]:=Grew.of ha1 hbb (by decide)
     have HGr:=hid hgr
     have HBs:Hid ((w1.setCell ⟨bw,0,none⟩ (.slice (some ⟨g1,o1,none⟩) n1 k1)).heap[bw]?=some (.cells #[.slice (some ⟨g1,o1,none⟩) n1 k1,hv] 84 (0,0))):=heap_setCell_same w1 bw 0 _ _ _ hbb
     clear ha1 hbb hgr hc0
     go_wp2_with fail
     go_ret
     generalize w1.setCell ⟨bw,0,none⟩ (.slice (some ⟨g1,o1,none⟩) n1 k1)=W3 at *
     generalize Value.slice (some ⟨g1,o1,none⟩) n1 k1=v1 at *
     have hgr:=HGr.out
     have hpsl:∀ k,(Value.slice pa pls.length pc).ownBlock=some k->k < w.heap.size:=fun k hk=>(HG.out.inv.prow.blk_lt hk).1
     have hwW2:=HB02.out.size
     have kk:Kept (fun k=>k=bw\/(Value.slice pa pls.length pc).ownBlock=some k) W2 W3:=((Kept.refl _ W2).alloc _).step hgr.kept (fun k _ e=>e.symm)
     have hplb:W3.heap[W2.heap.size]?=some (.cells #[.pointer (some ⟨g,0,none⟩),.pointer (some ⟨g2,0,none⟩)] 128 (0,0)):=by
      rw [hgr.kept.block W2.heap.size (by simp) (fun e=>by
       rcases e with e | e
       . have:=hpsl _ e;omega
       . omega)]
      exact heap_alloc_new W2 _
     have hrp:Row W2 125 1 (.slice pa pls.length pc) (plPtrs pls):=HP2.out.prow
     have hnew:=HG.out.inv.more HB02.out (by omega) (by omega) hfr Hfl2.out Href.out (CfOk.of hc) kk (Nat.le_refl _) hplb (HP2.out.inv.players hrp kk HBs.out) (by rw [Hptrs.out];exact hgr.row) (fun k hk=>by
      rcases hgr.step with ⟨e,_⟩ | ⟨k',e,e2⟩
      . exact .inl (by rw [<- e];exact hk)
      . rw [e] at hk
        simp only [Option.some.injEq] at hk
        simp only [World.size_alloc] at e2
        exact .inr (by omega))
     refine ⟨by simp,_,_,_,_,_,⟨hnew,fun q hq=>?_,by rw [List.length_append];simp only [List.length_cons,List.length_nil];omega,fun q hq=>?_⟩,fun k hk=>if_pos hk,?_,by unfold toldS;rw [List.map_append,List.sum_append];omega⟩
     . rcases List.mem_append.1 hq with hq | hq
       . exact ⟨(HG.out.even q hq).1,(HG.out.even q hq).2.1,by have:=(HG.out.even q hq).2.2;omega⟩
       . rw [List.mem_singleton.1 hq]
         exact ⟨rfl,rfl,Nat.zero_le _⟩
     . rcases List.mem_append.1 hq with hq | hq
       . exact HG.out.evenT q hq
       . rw [List.mem_singleton.1 hq]
     . refine (Kept.ofBelow HB02.out _).step kk (fun k hk e=>?_)
       rcases e with rfl | e
       . rw [HG.out.inv.obw];omega
       . rw [HG.out.inv.ops k e];omega
   . have h4i:¬ (pls.length:Int) < 4:=by omega
     go_wp2_with fail
     go_ret
     exact ⟨by simp,_,_,_,_,_,(HG.out.mono (by omega)).below HB02.out,fun k hk=>growO_old hk,Kept.ofBelow HB02.out _,by omega⟩
 . have hnew:=new_no q0 q1 q2 q3 (w.alloc (.cells #[.int .i64 3,.int .i64 n,.int .i64 source,.string s,.int .i64 ik,.string ikey,.int .i64 itime,.int .i64 ivalue,.int .u32 (itag:Int),.int .i64 q0,.int .i64 q1,.int .i64 q2,.int .i64 q3] 79)) hc
   go_enter Tryz.func53,Tryz.ntmps53
   go_wp2_with fail
   refine hnew.mono ?_
   rintro e W1 ⟨rfl,hb1⟩
   simp only [World.size_alloc] at hb1
   have hq:=HB.out W1 hb1
   have p9:=hq 9
   have p10:=hq 10
   have p11:=hq 11
   have p12:=hq 12
   simp only [List.getElem?_toArray,List.getElem?_cons_zero,List.getElem?_cons_succ] at p9 p10 p11 p12
   have hb01:Below w.heap.size w W1:=((Below.refl _ w).alloc (Nat.le_refl _) _).trans (hb1.mono (by omega))
   have hs1:=hb1.size
   simp only [World.size_alloc] at hs1
   clear hq hnew hb1
   go_wp2_with fail
   refine (rnew_any q0 q1 q2 q3 W1).mono ?_
   rintro e W2 ⟨hb2,hor⟩
   obtain rfl:e=.returned (.tuple #[.pointer none,.int .i64 1]):=by
    rcases hor with ⟨_,hh⟩ | ⟨hh,_⟩
    . exact hh
    . exact absurd hh hc
   clear hor
   have HB02:=hid (hb01.trans (hb2.mono (by omega)))
   clear p9 p10 p11 p12 hb01 hb2
   go_wp2_with fail
   go_ret
   exact ⟨by simp,_,_,_,_,_,(HG.out.mono (by omega)).below HB02.out,fun k hk=>growO_old hk,Kept.ofBelow HB02.out _,by omega⟩
theorem step_new (own:Nat->Nat) (w:World) (bw:Nat) (ps hv:Value) (hs:List HoldD) (pls:List PlD) (fed:Nat) (o:OpD) (h:Good own w bw ps hv hs pls fed) (hk:o.kind=3) :
 Calls Tryz.prog 32 #[.pointer (some ⟨bw,0,none⟩),.agg o.cells] w (StepL own bw hs (toldS pls) (fed+o.s.size) w):=by
 have HF:Hid (Calls Tryz.prog 53 #[.pointer (some ⟨bw,0,none⟩),.agg o.cells] (w.alloc (.cells o.cells 79)) (StepL (growO own w 0) bw hs (toldS pls) (fed+o.s.size) (w.alloc (.cells o.cells 79)))):=free_new (growO own w 0) _ bw ps hv hs pls fed o (h.below ((Below.refl _ w).alloc (Nat.le_refl _) _)) hk
 clear h
 obtain ⟨kind,n,source,s,ik,ikey,itime,ivalue,itag,q0,q1,q2,q3⟩:=o
 simp only [OpD.cells] at *
 subst hk
 go_enter Tryz.func32,Tryz.ntmps32
 go_wp2_with fail
 refine HF.out.mono ?_
 rintro e W ⟨rfl,own',ps',hv',hs',pls',h1,h2,h3,h4⟩
 go_wp2
 go_ret
 refine ⟨rfl,own',ps',hv',hs',pls',h1,fun k hk=>(h2 k (by simp;omega)).trans (growO_old hk),((Kept.refl _ w).alloc _).step h3 (fun k hk hh=>?_),h4⟩
 rw [growO_old hk] at hh;exact hh
theorem step_frames (own:Nat->Nat) (w:World) (bw:Nat) (ps hv:Value) (hs:List HoldD) (pls:List PlD) (fed:Nat) (o:OpD) (h:Good own w bw ps hv hs pls fed) (hf:o.Fits) (hk:o.kind=1\/o.kind=2) (hl:hs.length+4<=17592186044416) :
 Calls Tryz.prog 32 #[.pointer (some ⟨bw,0,none⟩),.agg o.cells] w (StepL own bw hs (toldS pls) (fed+o.s.size) w):=by
 refine (step_any bw ps hv hs o w h.inv.inv hf hk hl).mono ?_
 rintro e w' ⟨rfl,hs',hv',h4,hW,hkW,hq,hn⟩
 have hX:∀ k,(k=bw\/hv.ownBlock=some k)->own k=0:=fun k hh=>by
  rcases hh with rfl | hh
  . exact h.inv.obw
  . exact h.inv.ohv k hh
 refine ⟨rfl,growO own w 0,ps,hv',hs++hs',pls,⟨h.inv.mine hkW (fun k _ hh=>hX k hh) hW (h.inv.prow.kept hkW (fun k hp hh=>?_)) (fun k hk=>?_) (fun k hk=>.inl (h.inv.ops k hk)) (fun d hd=>?_) (fun p hp=>?_),fun q hq=>⟨(h.even q hq).1,(h.even q hq).2.1,by have:=(h.even q hq).2.2;omega⟩,h.many,h.evenT⟩,fun k hk=>growO_old hk,hkW.mono (fun k _ hh=>by rw [hX k hh];omega),by rw [List.length_append];omega⟩
 . rcases hh with rfl | hh
   . exact h.inv.prow.ne_block h.inv.inv.blk (by decide) hp
   . exact h.inv.prow.apart h.inv.inv.row (by decide) hp hh
 . rcases hq k hk with hh | hh
   . exact .inl (h.inv.ohv k hh)
   . exact .inr hh
 . rcases List.mem_append.1 hd with hd | hd
   . obtain ⟨b1,b2,b3,b4⟩:=h.inv.oh d hd
     exact ⟨.inl b1,fun k hk=>.inl (b2 k hk),fun k hk=>.inl (b3 k hk),fun k hk=>.inl (b4 k hk)⟩
   . obtain ⟨b1,b2,b3,b4⟩:=hn d hd
     exact ⟨.inr b1,fun k hk=>.inr (b2 k hk),fun k hk=>.inr (b3 k hk),fun k hk=>.inr (b4 k hk)⟩
 . have hb2:=h.inv.plOther hp
   refine hkW.block p.pb (Array.getElem?_eq_some_iff.1 hb2).1 (fun hh=>?_)
   rcases hh with hh | hh
   . have:=h.inv.inv.blk;rw [<- hh,hb2] at this;simp at this
   . exact h.inv.inv.row.ne_block hb2 (by decide) hh
theorem step_void (own:Nat->Nat) (w:World) (bw:Nat) (ps hv:Value) (hs:List HoldD) (fed:Nat) (o:OpD) (h:Good own w bw ps hv hs [] fed) (hk:o.kind < 1\/3 < o.kind) :
 Calls Tryz.prog 32 #[.pointer (some ⟨bw,0,none⟩),.agg o.cells] w (StepL own bw hs (toldS []) (fed+o.s.size) w):=by
 have HG:Hid (Good (growO own w 0) (w.alloc (.cells o.cells 79)) bw ps hv hs [] (fed+o.s.size)):=(h.mono (by omega)).below ((Below.refl _ w).alloc (Nat.le_refl _) _)
 have HK:Hid (Kept (fun k=>own k ≠ 99) w (w.alloc (.cells o.cells 79))):=(Kept.refl _ w).alloc _
 obtain ⟨c0,-,-,hbw⟩:=world_cells h.inv.inv.blk
 obtain ⟨pa,pc,hpv,-⟩:=h.inv.prow.len (by decide)
 have hpv:ps=.slice pa 0 pc:=hpv
 subst hpv
 clear h
 obtain ⟨kind,n,source,s,ik,ikey,itime,ivalue,itag,q0,q1,q2,q3⟩:=o
 simp only [OpD.cells] at *
 rcases hk with hk | hk
 . go_enter Tryz.func32,Tryz.ntmps32
   go_wp2_with fail
   go_ret
   exact ⟨rfl,_,_,_,_,_,HG.out,fun k hk=>growO_old hk,HK.out,by omega⟩
 . have hk1:1<=kind:=by omega
   go_enter Tryz.func32,Tryz.ntmps32
   go_wp2_with fail
   go_ret
   exact ⟨rfl,_,_,_,_,_,HG.out,fun k hk=>growO_old hk,HK.out,by omega⟩
theorem step_lines (own:Nat->Nat) (w:World) (bw:Nat) (ps hv:Value) (hs:List HoldD) (pls:List PlD) (fed:Nat) (o:OpD) (h:Good own w bw ps hv hs pls fed) (hf:o.Fits) (hn1:-9223372036854775808<=o.n) (hn2:o.n<=9223372036854775807) (hk:o.kind<=8) (hff:fed+o.s.size<=5000000) (hl:hs.length+4<=17592186044416) :
 Calls Tryz.prog 32 #[.pointer (some ⟨bw,0,none⟩),.agg o.cells] w (StepL own bw hs (toldS pls) (fed+o.s.size) w):=by
 by_cases h12:o.kind=1\/o.kind=2
 . exact step_frames own w bw ps hv hs pls fed o h hf h12 hl
 . by_cases h3:o.kind=3
   . exact step_new own w bw ps hv hs pls fed o h h3
   . by_cases hp:0 < pls.length
     . by_cases h0:o.kind < 1
       . exact step_none own w bw ps hv hs pls fed o h hf hn1 hn2 hp h0 hff
       . have:o.kind=4\/o.kind=5\/o.kind=6\/o.kind=7\/o.kind=8:=by omega
         rcases this with hh | hh | hh | hh | hh
         . exact step_open own w bw ps hv hs pls fed o h hf hn1 hn2 hp hh hff
         . exact step_feed own w bw ps hv hs pls fed o h hf hn1 hn2 hp hh hff hl
         . exact step_close own w bw ps hv hs pls fed o h hf hn1 hn2 hp hh hff
         . exact step_line own w bw ps hv hs pls fed o h hf hn1 hn2 hp hh hff
         . exact step_counts own w bw ps hv hs pls fed o h hf hn1 hn2 hp hh hff
     . have:pls=[]:=List.eq_nil_of_length_eq_zero (by omega)
       subst this
       exact step_void own w bw ps hv hs fed o h (by omega)
end Go.Proofs.YtcfngdnmpogaoaaGreat
namespace Go.Proofs.YtcfngdnmpogaoaaGreat
open Go.RowKit
variable {W0 w w':World} {X:Nat->Prop} {a bw i k:Nat} {hs:List HoldD} {hv ov ps:Value} {own:Nat->Nat} {pls:List PlD} {ys:List WinX}
theorem keep_plg (own:Nat->Nat) (W:World) (bw hb:Nat) (ps hv vb vt vw:Value) (hs:List HoldD) (pls:List PlD) (xs ts ws:List Value) (nw:Nat) (h:PInv own W bw ps hv hs pls)
 (hblk:W.heap[hb]?=some (.cells #[vb,vt,vw,.int .i64 0] 135 (0,0))) (hrow:Row W 5 1 vb xs) (hrt:Row W 26 1 vt ts) (hrw:Row W 70 7 vw ws) (hnw:ws.length=nw*7)
 (hB:∀ d ∈ hs,HoldIn (fun k=>k ≠ hb/\vb.ownBlock ≠ some k/\vt.ownBlock ≠ some k/\vw.ownBlock ≠ some k) d)
 (ohb:own hb=0) (ovb:∀ k,vb.ownBlock=some k\/vt.ownBlock=some k\/vw.ownBlock=some k->own k=0) (N:Nat->Prop) (hN1:N hb) (hN2:∀ k,vb.ownBlock=some k\/vt.ownBlock=some k\/vw.ownBlock=some k->N k) (hN3:∀ k,W.heap.size<=k->N k) (hl1:hs.length+4<=17592186044416) (hl2:xs.length+3<=140737488355328) (hl3:ts.length+3<=35184372088832) (hl4:nw+3<=1759218604441) :
 Calls Tryz.prog 59 #[.pointer (some ⟨bw,0,none⟩),.pointer (some ⟨hb,0,none⟩)] W fun e w'=>(∃ v,e=.returned v) /\
  ∃ hs' hv',hs'.length=4/\PInv (growO own W 0) w' bw ps hv' (hs++hs') pls/\Kept (fun k=>k=bw\/hv.ownBlock=some k\/k=hb\/vb.ownBlock=some k\/vt.ownBlock=some k\/vw.ownBlock=some k) W w'/\∀ d ∈ hs',HoldIn N d:=by
 refine (hkeep_gen bw hb ps hv vb vt vw hs xs ts ws nw W h.inv hblk hrow hrt hrw hnw hB (fun k=>(own k=0\/W.heap.size<=k)/\N k) ⟨.inl ohb,hN1⟩ (fun k hk=>⟨.inl (ovb k hk),hN2 k hk⟩) (fun k hk=>⟨.inr hk,hN3 k hk⟩) hl1 hl2 hl3 hl4).mono ?_
 rintro e w' ⟨hv0,hs',hv',h4,hW,hk,hq,hn⟩
 have hX:∀ k,(k=bw\/hv.ownBlock=some k\/k=hb\/vb.ownBlock=some k\/vt.ownBlock=some k\/vw.ownBlock=some k)->own k=0:=fun k hh=>by
  rcases hh with rfl | hh | rfl | hh
  . exact h.obw
  . exact h.ohv k hh
  . exact ohb
  . exact ovb k hh
 refine ⟨hv0,hs',hv',h4,h.mine hk (fun k _ hh=>hX k hh) hW (h.prow.kept hk (fun k hp hh=>?_)) (fun k hh=>?_) (fun k hh=>.inl (h.ops k hh)) (fun d hd=>?_) (fun p hp=>?_),hk,fun d hd=>?_⟩
 . rcases hh with rfl | hh | rfl | hh | hh | hh
   . exact h.prow.ne_block h.inv.blk (by decide) hp
   . exact h.prow.apart h.inv.row (by decide) hp hh
   . exact h.prow.ne_block hblk (by decide) hp
   . exact h.prow.apart hrow (by decide) hp hh
   . exact h.prow.apart hrt (by decide) hp hh
   . exact h.prow.apart hrw (by decide) hp hh
 . rcases hq k hh with hh | hh
   . exact .inl (h.ohv k hh)
   . exact hh.1
 . rcases List.mem_append.1 hd with hd | hd
   . obtain ⟨b1,b2,b3,b4⟩:=h.oh d hd
     exact ⟨.inl b1,fun k hk=>.inl (b2 k hk),fun k hk=>.inl (b3 k hk),fun k hk=>.inl (b4 k hk)⟩
   . obtain ⟨b1,b2,b3,b4⟩:=hn d hd
     exact ⟨b1.1,fun k hk=>(b2 k hk).1,fun k hk=>(b3 k hk).1,fun k hk=>(b4 k hk).1⟩
 . have hb2:=h.plOther hp
   refine hk.block p.pb (Array.getElem?_eq_some_iff.1 hb2).1 (fun hh=>?_)
   rcases hh with hh | hh | hh | hh | hh | hh
   . have:=h.inv.blk;rw [<- hh,hb2] at this;simp at this
   . exact h.inv.row.ne_block hb2 (by decide) hh
   . rw [<- hh,hb2] at hblk;simp at hblk
   . exact hrow.ne_block hb2 (by decide) hh
   . exact hrt.ne_block hb2 (by decide) hh
   . exact hrw.ne_block hb2 (by decide) hh
 . obtain ⟨b1,b2,b3,b4⟩:=hn d hd
   exact ⟨b1.2,fun k hk=>(b2 k hk).2,fun k hk=>(b3 k hk).2,fun k hk=>(b4 k hk).2⟩
theorem PInv.put {own':Nat->Nat} (h:PInv own w bw ps hv hs pls) {i a:Nat} {p:PlD} (hp:pls[i]?=some p) (q:PlD) (hq:q.pb=p.pb) (ha:a=2*i+1\/a=2*i+2) (hk:Kept (Own own w a) w w') (ho:∀ k,k < w.heap.size->own' k=own k) (hpl:PlayAt own' w' i q) :
 PInv own' w' bw ps hv hs (pls.set i q):=by
 obtain ⟨a1,a2,a3,a4,a5,a6⟩:=h.side hk (fun k _ hx h0=>by have:=hx.1;omega) ho
 refine ⟨a1,by rw [ptrs_set _ hp hq];exact a2,a3,a4,a5,a6,fun j s hs=>?_⟩
 rw [List.getElem?_set] at hs
 by_cases hi:i=j
 . subst hi
   have hl:i < pls.length:=(List.getElem?_eq_some_iff.1 hp).1
   rw [if_pos rfl,if_pos hl] at hs
   simp only [Option.some.injEq] at hs
   subst hs
   exact hpl
 . rw [if_neg hi] at hs
   have hl:=(Array.getElem?_eq_some_iff.1 (h.pl j s hs).blk).1
   exact ⟨(hk.block s.pb hl (fun hx=>by have:=hx.1;have:=(h.pl j s hs).mine;omega)).trans (h.pl j s hs).blk,(ho _ hl).trans (h.pl j s hs).mine,(h.pl j s hs).code.other hk (fun k _ hx h0=>by have:=hx.1;omega) ho,(h.pl j s hs).ref.other hk (fun k _ hx h0=>by have:=hx.1;omega) ho,(h.pl j s hs).conf⟩
open Classical in
noncomputable def growX (own:Nat->Nat) (w:World) (a:Nat) (X:Nat->Prop) (k:Nat):Nat:=if k < w.heap.size then own k else if X k then 0 else a
theorem growX_old (h:k < w.heap.size):growX own w a X k=own k:=if_pos h
theorem growX_out (h:w.heap.size<=k) (hx:X k):growX own w a X k=0:=by
 unfold growX;rw [if_neg (by omega),if_pos hx]
theorem growX_in (h:w.heap.size<=k) (hx:¬ X k):growX own w a X k=a:=by
 unfold growX;rw [if_neg (by omega),if_neg hx]
def outX (ov:Value) (ys:List WinX) (k:Nat):Prop:=ov.ownBlock=some k\/∃ x ∈ ys,x.tv.ownBlock=some k
theorem PInv.took (h:PInv own w bw ps hv hs pls) {i:Nat} {p:PlD} (hp:pls[i]?=some p) {T:Option Int} {ov:Value} {ys:List WinX} (hk:Kept (Own own w (2*i+1)) w w') (hf:FlowOn w' p.f p.c p.sp p.rs (Grown (Own own w (2*i+1)) w) T) (hw:WinsAt w' ov ys 0) :
 PInv (growX own w (2*i+1) (outX ov ys)) w' bw ps hv hs (pls.set i { p with T:=T }):=by
 have ho:∀ k,k < w.heap.size->growX own w (2*i+1) (outX ov ys) k=own k:=fun k hk=>growX_old hk
 have hpl:=h.pl i p hp
 have hl:=(Array.getElem?_eq_some_iff.1 hpl.blk).1
 have hf2:=(hf.shun (X:=outX ov ys) (fun k hx=>by
  rcases hx with hx | ⟨x,hx,hk⟩
  . exact ⟨_,_,_,_,hw.row,.inl rfl,hx⟩
  . exact ⟨_,_,_,_,(hw.tags x hx).1,.inr rfl,hk⟩)).lt
 refine h.put hp { p with T:=T } rfl (.inl rfl) hk ho ⟨(hk.block p.pb hl (fun hx=>by have:=hx.1;have:=hpl.mine;omega)).trans hpl.blk,(ho _ hl).trans hpl.mine,hf2.mono (fun k hk=>?_),hpl.ref.other hk (fun k _ hx h0=>by have:=hx.1;omega) ho,hpl.conf⟩
 obtain ⟨⟨hk,hx⟩,hlt⟩:=hk
 rcases hk with hk | hk
 . exact ⟨(ho k hk.2).trans hk.1,hlt⟩
 . exact ⟨growX_in hk hx,hlt⟩
theorem PInv.rtook (h:PInv own w bw ps hv hs pls) {i:Nat} {p:PlD} (hp:pls[i]?=some p) {T:Option Int × Nat} (hk:Kept (Own own w (2*i+2)) w w') (hf:Ref T w' p.r p.c p.sq p.rq (Own own w (2*i+2))) :
 PInv (growO own w (2*i+2)) w' bw ps hv hs (pls.set i { p with Tq:=T }):=by
 have ho:∀ k,k < w.heap.size->growO own w (2*i+2) k=own k:=fun k hk=>growO_old hk
 have hpl:=h.pl i p hp
 have hl:=(Array.getElem?_eq_some_iff.1 hpl.blk).1
 exact h.put hp { p with Tq:=T } rfl (.inr rfl) hk ho ⟨(hk.block p.pb hl (fun hx=>by have:=hx.1;have:=hpl.mine;omega)).trans hpl.blk,(ho _ hl).trans hpl.mine,hpl.code.other hk (fun k _ hx h0=>by have:=hx.1;omega) ho,Ref.grow (hf.mono (fun k hk=>.inl hk)),hpl.conf⟩
def Clear (ov:Value) (ys:List WinX) (i k:Nat):Prop:=ov.ownBlock ≠ some k/\∀ x ∈ ys.drop i,x.tv.ownBlock ≠ some k
structure KeepL (own:Nat->Nat) (W0 wr:World) (bw:Nat) (ps:Value) (hs:List HoldD) (pls:List PlD) (ov:Value) (ys:List WinX) (i:Nat) (own2:Nat->Nat) (hv2:Value) (hs2:List HoldD):Prop where
 inv:PInv own2 wr bw ps hv2 (hs++hs2) pls
 many:hs2.length=4*i
 clear:∀ d ∈ hs++hs2,HoldIn (Clear ov ys i) d
 row:Row wr 70 7 ov (ys.flatMap wxCells)
 tags:∀ x ∈ ys.drop i,Row wr 26 1 x.tv (x.w.tags.map tagV)
 mine:∀ k,outX ov ys k->own2 k=0
 old:∀ k,k < W0.heap.size->own2 k=own k
 kept:Kept (fun k=>own k=0) W0 wr
theorem HoldIn.of {N N':Nat->Prop} {d:HoldD} (h:HoldIn N d) (hN:∀ k,N k->N' k):HoldIn N' d:=⟨hN _ h.1,fun k hk=>hN k (h.2.1 k hk),fun k hk=>hN k (h.2.2.1 k hk),fun k hk=>hN k (h.2.2.2 k hk)⟩
theorem KeepL.start (h:PInv own W0 bw ps hv hs pls) (hw:WinsAt W0 ov ys 0) (hc:∀ d ∈ hs,HoldIn (Clear ov ys 0) d) (hm:∀ k,outX ov ys k->own k=0):KeepL own W0 W0 bw ps hs pls ov ys 0 own hv []:=
 ⟨by rw [List.append_nil];exact h,rfl,by rw [List.append_nil];exact hc,hw.row,fun x hx=>(hw.tags x (List.mem_of_mem_drop hx)).1,hm,fun _ _=>rfl,Kept.refl _ _⟩
theorem drop_at {x:WinX} (hx:ys[i]?=some x):ys.drop i=x :: ys.drop (i+1):=by
 obtain ⟨h1,h2⟩:=List.getElem?_eq_some_iff.1 hx
 rw [<- h2];exact List.drop_eq_getElem_cons h1
theorem KeepL.keep {wr:World} {own2:Nat->Nat} {hv2:Value} {hs2:List HoldD} {x:WinX} (h:KeepL own W0 wr bw ps hs pls ov ys i own2 hv2 hs2) (hx:ys[i]?=some x) (hap:ys.Pairwise tvAp) (hl1:hs.length+4*i+4<=17592186044416) (hl3:x.w.tags.length+3<=35184372088832) :
 Calls Tryz.prog 59 #[.pointer (some ⟨bw,0,none⟩),.pointer (some ⟨wr.heap.size,0,none⟩)] (wr.alloc (.cells #[.slice none 0 0,x.tv,.slice none 0 0,.int .i64 0] 135)) fun e w'=>(∃ v,e=.returned v) /\
  ∃ own3 hv3 hs3,KeepL own W0 w' bw ps hs pls ov ys (i+1) own3 hv3 hs3:=by
 obtain ⟨hil,-⟩:=List.getElem?_eq_some_iff.1 hx
 have hd:=drop_at hx
 have hxd:x ∈ ys.drop i:=by rw [hd];simp
 have hsub:∀ y,y ∈ ys.drop (i+1)->y ∈ ys.drop i:=fun y hy=>by rw [hd];exact List.mem_cons_of_mem _ hy
 have hxm:x ∈ ys:=List.mem_of_mem_drop hxd
 have hxy:∀ y ∈ ys.drop (i+1),tvAp x y:=fun y hy=>by
  have h1:(ys.drop i).Pairwise tvAp:=hap.sublist (List.drop_sublist _ _)
  rw [hd] at h1
  exact (List.pairwise_cons.1 h1).1 y hy
 have hP:=h.inv.below ((Below.refl _ wr).alloc (Nat.le_refl _) (.cells #[.slice none 0 0,x.tv,.slice none 0 0,.int .i64 0] 135))
 have hblk:=heap_alloc_new wr (.cells #[.slice none 0 0,x.tv,.slice none 0 0,.int .i64 0] 135)
 have hszW:(wr.alloc (.cells #[.slice none 0 0,x.tv,.slice none 0 0,.int .i64 0] 135)).heap.size=wr.heap.size+1:=by simp
 have hszk:=h.kept.size
 have hka:Kept (fun k=>own k=0) W0 (wr.alloc (.cells #[.slice none 0 0,x.tv,.slice none 0 0,.int .i64 0] 135)):=h.kept.alloc _
 have hrx:=(h.tags x hxd).alloc (.cells #[.slice none 0 0,x.tv,.slice none 0 0,.int .i64 0] 135)
 have hro:=h.row.alloc (.cells #[.slice none 0 0,x.tv,.slice none 0 0,.int .i64 0] 135)
 have hry:∀ y ∈ ys.drop (i+1),Row (wr.alloc (.cells #[.slice none 0 0,x.tv,.slice none 0 0,.int .i64 0] 135)) 26 1 y.tv (y.w.tags.map tagV):=fun y hy=>(h.tags y (hsub y hy)).alloc _
 have bo:∀ k,ov.ownBlock=some k->k < wr.heap.size:=fun k hk=>(h.row.blk_lt hk).1
 have bt:∀ y ∈ ys.drop i,∀ k,y.tv.ownBlock=some k->k < wr.heap.size:=fun y hy k hk=>((h.tags y hy).blk_lt hk).1
 generalize hWW:wr.alloc (.cells #[.slice none 0 0,x.tv,.slice none 0 0,.int .i64 0] 135)=W at *
 have nil1:∀ k,(Value.slice none 0 0).ownBlock ≠ some k:=fun k=>by simp [Value.ownBlock]
 have hox:∀ k,(Value.slice none 0 0).ownBlock=some k\/x.tv.ownBlock=some k\/(Value.slice none 0 0).ownBlock=some k->x.tv.ownBlock=some k:=fun k hk=>by
  rcases hk with hk | hk | hk
  . exact absurd hk (nil1 k)
  . exact hk
  . exact absurd hk (nil1 k)
 refine (keep_plg (growO own2 wr 0) W bw wr.heap.size ps hv2 (.slice none 0 0) x.tv (.slice none 0 0) (hs++hs2) pls [] (x.w.tags.map tagV) [] 0 hP hblk (Row.nil _ _ _) hrx (Row.nil _ _ _) (by simp) (fun d hd'=>?_) (growO_new (Nat.le_refl _)) (fun k hk=>?_) (Clear ov ys (i+1)) ?_ (fun k hk=>?_) (fun k hk=>?_) ?_ (by simp) (by rw [List.length_map];exact hl3) (by omega)).mono ?_
 . exact (h.clear d hd').mono (h.inv.inv.holds d hd') (fun k hk hc=>⟨by omega,nil1 k,hc.2 x hxd,nil1 k⟩)
 . have hk2:=hox k hk
   rw [growO_old (bt x hxd k hk2)]
   exact h.mine k (.inr ⟨x,hxm,hk2⟩)
 . exact ⟨fun e=>by have:=bo _ e;omega,fun y hy e=>by have:=bt y (hsub y hy) _ e;omega⟩
 . have hk2:=hox k hk
   exact ⟨fun e=>hro.apart hrx (by decide) e hk2,fun y hy=>hxy y hy k hk2⟩
 . exact ⟨fun e=>by have:=bo _ e;omega,fun y hy e=>by have:=bt y (hsub y hy) _ e;omega⟩
 . rw [List.length_append,h.many];omega
 . rintro e w' ⟨hv0,hs',hv',h4,hP',hk,hn⟩
   refine ⟨hv0,growO (growO own2 wr 0) W 0,hv',hs2++hs',⟨by rw [<- List.append_assoc];exact hP',by rw [List.length_append,h.many,h4];omega,fun d hd'=>?_,hro.kept hk (fun k hk2 hh=>?_),fun y hy=>(hry y hy).kept hk (fun k hk2 hh=>?_),fun k hk2=>?_,fun k hk2=>?_,hka.step hk (fun k hk2 hh=>?_)⟩⟩
   . rw [<- List.append_assoc] at hd'
     rcases List.mem_append.1 hd' with hd' | hd'
     . exact (h.clear d hd').of (fun k hc=>⟨hc.1,fun y hy=>hc.2 y (hsub y hy)⟩)
     . exact hn d hd'
   . rcases hh with hh | hh | hh | hh
     . subst hh;exact hro.ne_block hP.inv.blk (by decide) hk2
     . exact hro.apart hP.inv.row (by decide) hk2 hh
     . have:=bo k hk2;omega
     . exact hro.apart hrx (by decide) hk2 (hox k hh)
   . rcases hh with hh | hh | hh | hh
     . subst hh;exact (hry y hy).ne_block hP.inv.blk (by decide) hk2
     . exact (hry y hy).apart hP.inv.row (by decide) hk2 hh
     . have:=bt y (hsub y hy) k hk2;omega
     . exact hxy y hy k (hox k hh) hk2
   . have h0:=h.mine k hk2
     unfold growO
     split
     . split
       . exact h0
       . rfl
     . rfl
   . rw [growO_old (by omega),growO_old (by omega)]
     exact h.old k hk2
   . rw [<- h.old k hk2]
     rcases hh with hh | hh | hh | hh
     . rw [hh];exact h.inv.obw
     . exact h.inv.ohv k hh
     . omega
     . exact h.mine k (.inr ⟨x,hxm,hox k hh⟩)
theorem KeepL.last {wr:World} {own2:Nat->Nat} {hv2:Value} {hs2:List HoldD} (h:KeepL own W0 wr bw ps hs pls ov ys i own2 hv2 hs2) (hl1:hs.length+4*i+4<=17592186044416) (hl4:ys.length+3<=1759218604441) :
 Calls Tryz.prog 59 #[.pointer (some ⟨bw,0,none⟩),.pointer (some ⟨wr.heap.size,0,none⟩)] (wr.alloc (.cells #[.slice none 0 0,.slice none 0 0,ov,.int .i64 0] 135)) fun e w'=>(∃ v,e=.returned v) /\
  ∃ own3 hv3 hs3,PInv own3 w' bw ps hv3 (hs++hs3) pls/\hs3.length=4*i+4/\(∀ k,k < W0.heap.size->own3 k=own k)/\Kept (fun k=>own k=0) W0 w':=by
 have hP:=h.inv.below ((Below.refl _ wr).alloc (Nat.le_refl _) (.cells #[.slice none 0 0,.slice none 0 0,ov,.int .i64 0] 135))
 have hblk:=heap_alloc_new wr (.cells #[.slice none 0 0,.slice none 0 0,ov,.int .i64 0] 135)
 have hszW:(wr.alloc (.cells #[.slice none 0 0,.slice none 0 0,ov,.int .i64 0] 135)).heap.size=wr.heap.size+1:=by simp
 have hszk:=h.kept.size
 have hka:Kept (fun k=>own k=0) W0 (wr.alloc (.cells #[.slice none 0 0,.slice none 0 0,ov,.int .i64 0] 135)):=h.kept.alloc _
 have hro:=h.row.alloc (.cells #[.slice none 0 0,.slice none 0 0,ov,.int .i64 0] 135)
 have bo:∀ k,ov.ownBlock=some k->k < wr.heap.size:=fun k hk=>(h.row.blk_lt hk).1
 generalize hWW:wr.alloc (.cells #[.slice none 0 0,.slice none 0 0,ov,.int .i64 0] 135)=W at *
 have nil1:∀ k,(Value.slice none 0 0).ownBlock ≠ some k:=fun k=>by simp [Value.ownBlock]
 have hox:∀ k,(Value.slice none 0 0).ownBlock=some k\/(Value.slice none 0 0).ownBlock=some k\/ov.ownBlock=some k->ov.ownBlock=some k:=fun k hk=>by
  rcases hk with hk | hk | hk
  . exact absurd hk (nil1 k)
  . exact absurd hk (nil1 k)
  . exact hk
 refine (keep_plg (growO own2 wr 0) W bw wr.heap.size ps hv2 (.slice none 0 0) (.slice none 0 0) ov (hs++hs2) pls [] [] (ys.flatMap wxCells) ys.length hP hblk (Row.nil _ _ _) (Row.nil _ _ _) hro (by rw [winFlat_len];omega) (fun d hd'=>?_) (growO_new (Nat.le_refl _)) (fun k hk=>?_) (fun _=>True) trivial (fun _ _=>trivial) (fun _ _=>trivial) ?_ (by simp) (by simp) hl4).mono ?_
 . exact (h.clear d hd').mono (h.inv.inv.holds d hd') (fun k hk hc=>⟨by omega,nil1 k,nil1 k,hc.1⟩)
 . have hk2:=hox k hk
   rw [growO_old (bo k hk2)]
   exact h.mine k (.inl hk2)
 . rw [List.length_append,h.many];omega
 . rintro e w' ⟨hv0,hs',hv',h4,hP',hk,-⟩
   refine ⟨hv0,growO (growO own2 wr 0) W 0,hv',hs2++hs',by rw [<- List.append_assoc];exact hP',by rw [List.length_append,h.many,h4],fun k hk2=>?_,hka.step hk (fun k hk2 hh=>?_)⟩
   . rw [growO_old (by omega),growO_old (by omega)]
     exact h.old k hk2
   . rw [<- h.old k hk2]
     rcases hh with hh | hh | hh | hh
     . rw [hh];exact h.inv.obw
     . exact h.inv.ohv k hh
     . omega
     . exact h.mine k (.inl (hox k hh))
end Go.Proofs.YtcfngdnmpogaoaaGreat
