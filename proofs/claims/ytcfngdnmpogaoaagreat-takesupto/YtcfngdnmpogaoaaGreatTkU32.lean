import Derived.Test.YtcfngdnmpogaoaaGreatTkU30
namespace Go.Proofs.YtcfngdnmpogaoaaGreat
open Go.RowKit Go.MuLone
set_option maxHeartbeats 6400000
set_option maxRecDepth 20000
theorem Ref.told {T:Option Int × Nat} {w:World} {g:Nat} {c:Cf} {sp:Sp} {rs:List (List UInt8)} {G:Nat->Prop} (h:Ref T w g c sp rs G):w.cell? ⟨g,45,none⟩=some (.bool sp.li)/\w.cell? ⟨g,46,none⟩=some (.int .i64 sp.lt)/\w.cell? ⟨g,48,none⟩=some (.int .i64 sp.n.taken)/\w.cell? ⟨g,49,none⟩=some (.int .i64 sp.n.late)/\w.cell? ⟨g,50,none⟩=some (.int .i64 sp.n.range)/\w.cell? ⟨g,51,none⟩=some (.int .i64 sp.n.full)/\w.cell? ⟨g,52,none⟩=some (.int .i64 sp.n.marks)/\w.cell? ⟨g,53,none⟩=some (.int .i64 sp.n.broken):=by
 obtain ⟨r,ds,h1,h2,-⟩:=h
 rw [<- h2.n,<- h2.line,<- h2.lined]
 exact ⟨h1.rev.rf.tailAt 1 rfl,h1.rev.rf.tailAt 2 rfl,h1.rev.rf.tailAt 4 rfl,h1.rev.rf.tailAt 5 rfl,h1.rev.rf.tailAt 6 rfl,h1.rev.rf.tailAt 7 rfl,h1.rev.rf.tailAt 8 rfl,h1.rev.rf.tailAt 9 rfl⟩
theorem set_self {α:Type} (l:List α) (i:Nat) (x:α) (h:l[i]?=some x):l.set i x=l:=by
 refine List.ext_getElem? (fun j=>?_)
 rw [List.getElem?_set]
 split
 . rename_i hh;subst hh
   split
   . exact h.symm
   . rename_i h3;exact absurd (List.getElem?_eq_some_iff.1 h).1 h3
 . rfl
theorem askCall {fn:Nat} {args:Array Value} {v:Value} {own:Nat->Nat} {W:World} {bw:Nat} {ps hv:Value} {hs:List HoldD} {pls:List PlD} (h:PInv own W bw ps hv hs pls) {i:Nat} {p:PlD} (hp:pls[i]?=some p)
 (hcall:∀ (w:World) (F:Nat->Prop),FlowOn w p.f p.c p.sp p.rs F p.T->Calls Tryz.prog fn args w fun e w'=>e=.returned v/\FlowOn w' p.f p.c p.sp p.rs F p.T/\Kept F w w') :
 Calls Tryz.prog fn args W fun e w'=>e=.returned v/\PInv (growO own W (2*i+1)) w' bw ps hv hs pls/\Kept (Own own W (2*i+1)) W w':=by
 refine (codeCall h hp (sp:=p.sp) (rs:=p.rs) (fun w F hF=>(hcall w F hF).mono (fun e w' ⟨h1,h2,h3⟩=>⟨h1,h2.up,h3⟩))).mono ?_
 rintro e w' ⟨rfl,h1,h2⟩
 have:pls.set i { p with sp:=p.sp,rs:=p.rs }=pls:=set_self pls i p hp
 rw [this] at h1
 exact ⟨rfl,h1,h2⟩
theorem step_line (own:Nat->Nat) (w:World) (bw:Nat) (ps hv:Value) (hs:List HoldD) (pls:List PlD) (fed:Nat) (o:OpD) (h:Good own w bw ps hv hs pls fed) (hf:o.Fits) (hn1:-9223372036854775808<=o.n) (hn2:o.n<=9223372036854775807) (hne:0 < pls.length) (hk:o.kind=7) (hff:fed+o.s.size<=5000000) :
 Calls Tryz.prog 32 #[.pointer (some ⟨bw,0,none⟩),.agg o.cells] w (StepL own bw hs (toldS pls) (fed+o.s.size) w):=by
 have hmany:=h.many
 obtain ⟨i,p,hpi,hp⟩:∃ (i:Nat) (p:PlD),pickW o.n (pls.length:Int)=(i:Int)/\pls[i]?=some p:=by
  obtain ⟨h1,h2⟩:=pickW_lt o.n (pls.length:Int) (by omega)
  exact ⟨(pickW o.n (pls.length:Int)).toNat,pls[(pickW o.n (pls.length:Int)).toNat]'(by omega),by omega,List.getElem?_eq_getElem _⟩
 have hil:i < pls.length:=(List.getElem?_eq_some_iff.1 hp).1
 have hpk:∀ W,Calls Tryz.prog 54 #[.int .i64 o.n,.int .i64 (pls.length:Int)] W fun e w'=>e=.returned (.int .i64 (i:Int))/\w'=W:=fun W=>by
  rw [<- hpi];exact pickL_any o.n pls.length W hn1 hn2 (by omega) (by omega)
 have hpl:=h.inv.prow
 have hplen:(plPtrs pls).length=pls.length:=by unfold plPtrs;rw [List.length_map]
 obtain ⟨pa,pc,hpv,-⟩:=hpl.len (by decide)
 rw [hplen,Nat.div_one] at hpv
 subst hpv
 obtain ⟨pg,po,rfl⟩:=slice_some hpl (by omega)
 have hpcell:w.cell? ⟨pg,po+i,none⟩=some (.pointer (some ⟨p.pb,0,none⟩)):=by
  have:=hpl.cell i (by omega)
  rw [this];unfold plPtrs;rw [List.getElem?_map,hp];rfl
 have hpgl:pg < w.heap.size:=(hpl.blk_lt (k:=pg) rfl).1
 have HEven:=h.even p (List.mem_of_getElem? hp)
 have HG:Hid (Good own w bw (.slice (some ⟨pg,po,none⟩) pls.length pc) hv hs pls fed):=h
 have HP0:Hid (PInv (growO own w 0) (w.alloc (.cells o.cells 79)) bw (.slice (some ⟨pg,po,none⟩) pls.length pc) hv hs pls):=h.inv.below ((Below.refl _ w).alloc (Nat.le_refl _) _)
 have hbox:=heap_alloc_new w (.cells o.cells 79)
 have HS0:Hid ((w.alloc (.cells o.cells 79)).heap.size=w.heap.size+1):=by show _=_;simp
 have HK0:Hid (Kept (fun k=>own k ≠ 99) w (w.alloc (.cells o.cells 79))):=(Kept.refl _ w).alloc _
 obtain ⟨c0,c1,fw,hbw⟩:=world_cells h.inv.inv.blk
 have hlen0:¬ ((pls.length:Nat):Int)=0:=by omega
 have hlen1:¬ pls.length=0:=by omega
 have hin:(i:Int) < (pls.length:Int):=by omega
 clear h
 obtain ⟨kind,n,source,s,ik,ikey,itime,ivalue,itag,q0,q1,q2,q3⟩:=o
 simp only [OpD.cells] at *
 subst hk
 have hc0:(w.alloc (.cells #[.int .i64 7,.int .i64 n,.int .i64 source,.string s,.int .i64 ik,.string ikey,.int .i64 itime,.int .i64 ivalue,.int .u32 (itag:Int),.int .i64 q0,.int .i64 q1,.int .i64 q2,.int .i64 q3] 79)).cell? ⟨bw,0,none⟩=some (.slice (some ⟨pg,po,none⟩) pls.length pc):=(((Below.refl w.heap.size w).alloc (Nat.le_refl _) _).cell (p:=⟨bw,0,none⟩) hbw).trans c0
 have hpc0:(w.alloc (.cells #[.int .i64 7,.int .i64 n,.int .i64 source,.string s,.int .i64 ik,.string ikey,.int .i64 itime,.int .i64 ivalue,.int .u32 (itag:Int),.int .i64 q0,.int .i64 q1,.int .i64 q2,.int .i64 q3] 79)).cell? ⟨pg,po+i,none⟩=some (.pointer (some ⟨p.pb,0,none⟩)):=(((Below.refl w.heap.size w).alloc (Nat.le_refl _) _).cell (p:=⟨pg,po+i,none⟩) hpgl).trans hpcell
 go_enter Tryz.func32,Tryz.ntmps32
 go_upto_region 5 with fail
 clear c0 c1 fw hpcell
 have b0:=fun j=>cell_of_row _ _ j _ _ _ hbox
 have b1:=b0 1
 simp only [List.getElem?_toArray,List.getElem?_cons_zero,List.getElem?_cons_succ] at b1
 have HBox:Hid ((w.alloc (.cells #[.int .i64 7,.int .i64 n,.int .i64 source,.string s,.int .i64 ik,.string ikey,.int .i64 itime,.int .i64 ivalue,.int .u32 (itag:Int),.int .i64 q0,.int .i64 q1,.int .i64 q2,.int .i64 q3] 79)).heap[w.heap.size]?=some (.cells #[.int .i64 7,.int .i64 n,.int .i64 source,.string s,.int .i64 ik,.string ikey,.int .i64 itime,.int .i64 ivalue,.int .u32 (itag:Int),.int .i64 q0,.int .i64 q1,.int .i64 q2,.int .i64 q3] 79 (0,0))):=hbox
 clear b0 hbox
 generalize w.alloc (.cells #[.int .i64 7,.int .i64 n,.int .i64 source,.string s,.int .i64 ik,.string ikey,.int .i64 itime,.int .i64 ivalue,.int .u32 (itag:Int),.int .i64 q0,.int .i64 q1,.int .i64 q2,.int .i64 q3] 79)=W0 at *
 go_quiet ((go_at_call 54;exact Calls.quiet_of_same (hpk _)))
 have HP1:Hid (PInv (growO (growO own w 0) W0 0) (W0.drewN nq) bw (.slice (some ⟨pg,po,none⟩) pls.length pc) hv hs pls):=HP0.out.below (below_drewN (Below.refl _ W0) nq)
 have HK1:Hid (Kept (fun k=>own k ≠ 99) w (W0.drewN nq)):=HK0.out.drewN nq
 have HS1:Hid ((W0.drewN nq).heap.size=w.heap.size+1):=by show _=_;rw [<- HS0.out];simp
 have HBox1:Hid ((W0.drewN nq).heap[w.heap.size]?=some (.cells #[.int .i64 7,.int .i64 n,.int .i64 source,.string s,.int .i64 ik,.string ikey,.int .i64 itime,.int .i64 ivalue,.int .u32 (itag:Int),.int .i64 q0,.int .i64 q1,.int .i64 q2,.int .i64 q3] 79 (0,0))):=by show _=_;simpa using HBox.out
 have HO1:Hid (∀ k,k < w.heap.size->growO (growO own w 0) W0 0 k=own k):=fun k hk=>(growO_old (by rw [HS0.out];omega)).trans (growO_old hk)
 have HOB:Hid (growO (growO own w 0) W0 0 w.heap.size=0):=(growO_old (by rw [HS0.out];omega)).trans (growO_new (Nat.le_refl _))
 clear HP0 HK0 HS0 HBox b1 hc0 hpc0 hpk
 generalize growO (growO own w 0) W0 0=own1 at *
 generalize W0.drewN nq=W1 at *
 have b0:W1.cell? ⟨w.heap.size,0,none⟩=some (.int .i64 7):=cell_of_row _ _ 0 _ _ _ HBox1.out
 obtain ⟨hev1,hev2,hev3⟩:=HEven
 have hplA:=HP1.out.pl i p hp
 have p0:W1.cell? ⟨p.pb,0,none⟩=some (.pointer (some ⟨p.f,0,none⟩)):=cell_of_row _ _ 0 _ _ _ hplA.blk
 have HC:Hid (Calls Tryz.prog 29 #[.pointer (some ⟨p.f,0,none⟩)] W1 fun e w'=>e=.returned (.tuple #[.int .i64 p.sp.lt,.bool p.sp.li])/\PInv (growO own1 W1 (2*i+1)) w' bw (.slice (some ⟨pg,po,none⟩) pls.length pc) hv hs pls/\Kept (Own own1 W1 (2*i+1)) W1 w'):=askCall HP1.out hp (fun w F hF=>line_on p.f p.c p.sp p.rs F p.T w hF)
 go_upto_region 19 with fail
 clear b0 hplA
 go_wp2_with fail
 refine HC.out.mono ?_
 rintro e V1 ⟨rfl,hq1,hk1⟩
 have HQ1:Hid (PInv (growO own1 W1 (2*i+1)) V1 bw (.slice (some ⟨pg,po,none⟩) pls.length pc) hv hs pls):=hq1
 have HKq:Hid (Kept (Own own1 W1 (2*i+1)) W1 V1):=hk1
 have hplB:=hq1.pl i p hp
 have k1:V1.cell? ⟨p.pb,1,none⟩=some (.pointer (some ⟨p.r,0,none⟩)):=cell_of_row _ _ 1 _ _ _ hplB.blk
 have hrr:=hplB.ref
 rw [hev1] at hrr
 obtain ⟨t1,t2,-⟩:=hrr.told
 clear p0 hq1 hk1 hplB hrr HC hev1 hev2 hev3
 go_wp2_with fail
 go_ret
 have hi4:i < 4:=by omega
 have hsW:w.heap.size < W1.heap.size:=by rw [HS1.out];omega
 refine ⟨by simp,_,_,_,_,_,⟨HQ1.out,fun q hq=>⟨(HG.out.even q hq).1,(HG.out.even q hq).2.1,by have:=(HG.out.even q hq).2.2;omega⟩,HG.out.many,HG.out.evenT⟩,fun k hk=>(growO_old (by omega)).trans (HO1.out k hk),?_,by omega⟩
 refine HK1.out.step HKq.out (fun k hk hh=>?_)
 have e1:=hh.1
 rw [HO1.out k hk] at e1;omega
theorem step_counts (own:Nat->Nat) (w:World) (bw:Nat) (ps hv:Value) (hs:List HoldD) (pls:List PlD) (fed:Nat) (o:OpD) (h:Good own w bw ps hv hs pls fed) (hf:o.Fits) (hn1:-9223372036854775808<=o.n) (hn2:o.n<=9223372036854775807) (hne:0 < pls.length) (hk:o.kind=8) (hff:fed+o.s.size<=5000000) :
 Calls Tryz.prog 32 #[.pointer (some ⟨bw,0,none⟩),.agg o.cells] w (StepL own bw hs (toldS pls) (fed+o.s.size) w):=by
 have hmany:=h.many
 obtain ⟨i,p,hpi,hp⟩:∃ (i:Nat) (p:PlD),pickW o.n (pls.length:Int)=(i:Int)/\pls[i]?=some p:=by
  obtain ⟨h1,h2⟩:=pickW_lt o.n (pls.length:Int) (by omega)
  exact ⟨(pickW o.n (pls.length:Int)).toNat,pls[(pickW o.n (pls.length:Int)).toNat]'(by omega),by omega,List.getElem?_eq_getElem _⟩
 have hil:i < pls.length:=(List.getElem?_eq_some_iff.1 hp).1
 have hpk:∀ W,Calls Tryz.prog 54 #[.int .i64 o.n,.int .i64 (pls.length:Int)] W fun e w'=>e=.returned (.int .i64 (i:Int))/\w'=W:=fun W=>by
  rw [<- hpi];exact pickL_any o.n pls.length W hn1 hn2 (by omega) (by omega)
 have hpl:=h.inv.prow
 have hplen:(plPtrs pls).length=pls.length:=by unfold plPtrs;rw [List.length_map]
 obtain ⟨pa,pc,hpv,-⟩:=hpl.len (by decide)
 rw [hplen,Nat.div_one] at hpv
 subst hpv
 obtain ⟨pg,po,rfl⟩:=slice_some hpl (by omega)
 have hpcell:w.cell? ⟨pg,po+i,none⟩=some (.pointer (some ⟨p.pb,0,none⟩)):=by
  have:=hpl.cell i (by omega)
  rw [this];unfold plPtrs;rw [List.getElem?_map,hp];rfl
 have hpgl:pg < w.heap.size:=(hpl.blk_lt (k:=pg) rfl).1
 have HEven:=h.even p (List.mem_of_getElem? hp)
 have HG:Hid (Good own w bw (.slice (some ⟨pg,po,none⟩) pls.length pc) hv hs pls fed):=h
 have HP0:Hid (PInv (growO own w 0) (w.alloc (.cells o.cells 79)) bw (.slice (some ⟨pg,po,none⟩) pls.length pc) hv hs pls):=h.inv.below ((Below.refl _ w).alloc (Nat.le_refl _) _)
 have hbox:=heap_alloc_new w (.cells o.cells 79)
 have HS0:Hid ((w.alloc (.cells o.cells 79)).heap.size=w.heap.size+1):=by show _=_;simp
 have HK0:Hid (Kept (fun k=>own k ≠ 99) w (w.alloc (.cells o.cells 79))):=(Kept.refl _ w).alloc _
 obtain ⟨c0,c1,fw,hbw⟩:=world_cells h.inv.inv.blk
 have hlen0:¬ ((pls.length:Nat):Int)=0:=by omega
 have hlen1:¬ pls.length=0:=by omega
 have hin:(i:Int) < (pls.length:Int):=by omega
 clear h
 obtain ⟨kind,n,source,s,ik,ikey,itime,ivalue,itag,q0,q1,q2,q3⟩:=o
 simp only [OpD.cells] at *
 subst hk
 have hc0:(w.alloc (.cells #[.int .i64 8,.int .i64 n,.int .i64 source,.string s,.int .i64 ik,.string ikey,.int .i64 itime,.int .i64 ivalue,.int .u32 (itag:Int),.int .i64 q0,.int .i64 q1,.int .i64 q2,.int .i64 q3] 79)).cell? ⟨bw,0,none⟩=some (.slice (some ⟨pg,po,none⟩) pls.length pc):=(((Below.refl w.heap.size w).alloc (Nat.le_refl _) _).cell (p:=⟨bw,0,none⟩) hbw).trans c0
 have hpc0:(w.alloc (.cells #[.int .i64 8,.int .i64 n,.int .i64 source,.string s,.int .i64 ik,.string ikey,.int .i64 itime,.int .i64 ivalue,.int .u32 (itag:Int),.int .i64 q0,.int .i64 q1,.int .i64 q2,.int .i64 q3] 79)).cell? ⟨pg,po+i,none⟩=some (.pointer (some ⟨p.pb,0,none⟩)):=(((Below.refl w.heap.size w).alloc (Nat.le_refl _) _).cell (p:=⟨pg,po+i,none⟩) hpgl).trans hpcell
 go_enter Tryz.func32,Tryz.ntmps32
 go_upto_region 5 with fail
 clear c0 c1 fw hpcell
 have b0:=fun j=>cell_of_row _ _ j _ _ _ hbox
 have b1:=b0 1
 simp only [List.getElem?_toArray,List.getElem?_cons_zero,List.getElem?_cons_succ] at b1
 have HBox:Hid ((w.alloc (.cells #[.int .i64 8,.int .i64 n,.int .i64 source,.string s,.int .i64 ik,.string ikey,.int .i64 itime,.int .i64 ivalue,.int .u32 (itag:Int),.int .i64 q0,.int .i64 q1,.int .i64 q2,.int .i64 q3] 79)).heap[w.heap.size]?=some (.cells #[.int .i64 8,.int .i64 n,.int .i64 source,.string s,.int .i64 ik,.string ikey,.int .i64 itime,.int .i64 ivalue,.int .u32 (itag:Int),.int .i64 q0,.int .i64 q1,.int .i64 q2,.int .i64 q3] 79 (0,0))):=hbox
 clear b0 hbox
 generalize w.alloc (.cells #[.int .i64 8,.int .i64 n,.int .i64 source,.string s,.int .i64 ik,.string ikey,.int .i64 itime,.int .i64 ivalue,.int .u32 (itag:Int),.int .i64 q0,.int .i64 q1,.int .i64 q2,.int .i64 q3] 79)=W0 at *
 go_quiet ((go_at_call 54;exact Calls.quiet_of_same (hpk _)))
 have HP1:Hid (PInv (growO (growO own w 0) W0 0) (W0.drewN nq) bw (.slice (some ⟨pg,po,none⟩) pls.length pc) hv hs pls):=HP0.out.below (below_drewN (Below.refl _ W0) nq)
 have HK1:Hid (Kept (fun k=>own k ≠ 99) w (W0.drewN nq)):=HK0.out.drewN nq
 have HS1:Hid ((W0.drewN nq).heap.size=w.heap.size+1):=by show _=_;rw [<- HS0.out];simp
 have HBox1:Hid ((W0.drewN nq).heap[w.heap.size]?=some (.cells #[.int .i64 8,.int .i64 n,.int .i64 source,.string s,.int .i64 ik,.string ikey,.int .i64 itime,.int .i64 ivalue,.int .u32 (itag:Int),.int .i64 q0,.int .i64 q1,.int .i64 q2,.int .i64 q3] 79 (0,0))):=by show _=_;simpa using HBox.out
 have HO1:Hid (∀ k,k < w.heap.size->growO (growO own w 0) W0 0 k=own k):=fun k hk=>(growO_old (by rw [HS0.out];omega)).trans (growO_old hk)
 have HOB:Hid (growO (growO own w 0) W0 0 w.heap.size=0):=(growO_old (by rw [HS0.out];omega)).trans (growO_new (Nat.le_refl _))
 clear HP0 HK0 HS0 HBox b1 hc0 hpc0 hpk
 generalize growO (growO own w 0) W0 0=own1 at *
 generalize W0.drewN nq=W1 at *
 have b0:W1.cell? ⟨w.heap.size,0,none⟩=some (.int .i64 8):=cell_of_row _ _ 0 _ _ _ HBox1.out
 obtain ⟨hev1,hev2,hev3⟩:=HEven
 have hplA:=HP1.out.pl i p hp
 have p0:W1.cell? ⟨p.pb,0,none⟩=some (.pointer (some ⟨p.f,0,none⟩)):=cell_of_row _ _ 0 _ _ _ hplA.blk
 have p1:W1.cell? ⟨p.pb,1,none⟩=some (.pointer (some ⟨p.r,0,none⟩)):=cell_of_row _ _ 1 _ _ _ hplA.blk
 have hrr:=hplA.ref
 rw [hev1] at hrr
 obtain ⟨-,-,t1,t2,t3,t4,t5,t6⟩:=hrr.told
 have HP2:Hid (PInv (growO own1 W1 0) W1.drew bw (.slice (some ⟨pg,po,none⟩) pls.length pc) hv hs pls):=HP1.out.below (Below.refl _ W1).drew
 have HC:Hid (Calls Tryz.prog 27 #[.pointer (some ⟨p.f,0,none⟩)] W1.drew fun e w'=>e=.returned (.agg #[.int .i64 p.sp.n.taken,.int .i64 p.sp.n.late,.int .i64 p.sp.n.range,.int .i64 p.sp.n.full,.int .i64 p.sp.n.marks,.int .i64 p.sp.n.broken])/\PInv (growO (growO own1 W1 0) W1.drew (2*i+1)) w' bw (.slice (some ⟨pg,po,none⟩) pls.length pc) hv hs pls/\Kept (Own (growO own1 W1 0) W1.drew (2*i+1)) W1.drew w'):=askCall HP2.out hp (fun w F hF=>counts_on p.f p.c p.sp p.rs F p.T w hF)
 go_upto_region 22 with fail
 clear b0 hplA hrr
 have Hev1:Hid (p.sq=p.sp):=hev1
 clear hev1 hev2 hev3
 go_region_held3 (fun W=>W.cell? ⟨p.pb,0,none⟩=some (.pointer (some ⟨p.f,0,none⟩))/\W.cell? ⟨p.pb,1,none⟩=some (.pointer (some ⟨p.r,0,none⟩))/\W.cell? ⟨p.r,48,none⟩=some (.int .i64 p.sp.n.taken)/\W.cell? ⟨p.r,49,none⟩=some (.int .i64 p.sp.n.late)/\W.cell? ⟨p.r,50,none⟩=some (.int .i64 p.sp.n.range)/\W.cell? ⟨p.r,51,none⟩=some (.int .i64 p.sp.n.full)/\W.cell? ⟨p.r,52,none⟩=some (.int .i64 p.sp.n.marks)/\W.cell? ⟨p.r,53,none⟩=some (.int .i64 p.sp.n.broken)) (go_keep) (first
  | (go_at_call 27;refine HC.out.mono ?_;rintro e V1 ⟨rfl,hq1,hk1⟩;have HQ1:Hid (PInv (growO (growO own1 W1 0) W1.drew (2*i+1)) V1 bw (.slice (some ⟨pg,po,none⟩) pls.length pc) hv hs pls):=hq1;have HKq:Hid (Kept (Own (growO own1 W1 0) W1.drew (2*i+1)) W1.drew V1):=hk1;have hplB:=hq1.pl i p hp;have k0:V1.cell? ⟨p.pb,0,none⟩=some (.pointer (some ⟨p.f,0,none⟩)):=cell_of_row _ _ 0 _ _ _ hplB.blk;have k1:V1.cell? ⟨p.pb,1,none⟩=some (.pointer (some ⟨p.r,0,none⟩)):=cell_of_row _ _ 1 _ _ _ hplB.blk;have hr2:=hplB.ref;rw [Hev1.out] at hr2;obtain ⟨-,-,u1,u2,u3,u4,u5,u6⟩:=hr2.told;clear hq1 hk1 hplB hr2))
 clear p0 p1 t1 t2 t3 t4 t5 t6 k0 k1 u1 u2 u3 u4 u5 u6
 go_wp2_with fail
 go_ret
 have hi4:i < 4:=by omega
 have hsW:w.heap.size < W1.heap.size:=by rw [HS1.out];omega
 have hsD:W1.drew.heap.size=W1.heap.size:=rfl
 have hag:∀ k,k < w.heap.size->growO own1 W1 0 k=own k:=fun k hk=>(growO_old (by omega)).trans (HO1.out k hk)
 refine ⟨by simp,_,_,_,_,_,⟨HQ1.out,fun q hq=>⟨(HG.out.even q hq).1,(HG.out.even q hq).2.1,by have:=(HG.out.even q hq).2.2;omega⟩,HG.out.many,HG.out.evenT⟩,fun k hk=>(growO_old (by omega)).trans (hag k hk),?_,by omega⟩
 refine HK1.out.drew.step HKq.out (fun k hk hh=>?_)
 have e1:=hh.1
 rw [hag k hk] at e1;omega
theorem step_none (own:Nat->Nat) (w:World) (bw:Nat) (ps hv:Value) (hs:List HoldD) (pls:List PlD) (fed:Nat) (o:OpD) (h:Good own w bw ps hv hs pls fed) (hf:o.Fits) (hn1:-9223372036854775808<=o.n) (hn2:o.n<=9223372036854775807) (hne:0 < pls.length) (hk:o.kind < 1) (hff:fed+o.s.size<=5000000) :
 Calls Tryz.prog 32 #[.pointer (some ⟨bw,0,none⟩),.agg o.cells] w (StepL own bw hs (toldS pls) (fed+o.s.size) w):=by
 have hmany:=h.many
 obtain ⟨i,p,hpi,hp⟩:∃ (i:Nat) (p:PlD),pickW o.n (pls.length:Int)=(i:Int)/\pls[i]?=some p:=by
  obtain ⟨h1,h2⟩:=pickW_lt o.n (pls.length:Int) (by omega)
  exact ⟨(pickW o.n (pls.length:Int)).toNat,pls[(pickW o.n (pls.length:Int)).toNat]'(by omega),by omega,List.getElem?_eq_getElem _⟩
 have hil:i < pls.length:=(List.getElem?_eq_some_iff.1 hp).1
 have hpk:∀ W,Calls Tryz.prog 54 #[.int .i64 o.n,.int .i64 (pls.length:Int)] W fun e w'=>e=.returned (.int .i64 (i:Int))/\w'=W:=fun W=>by
  rw [<- hpi];exact pickL_any o.n pls.length W hn1 hn2 (by omega) (by omega)
 have hpl:=h.inv.prow
 have hplen:(plPtrs pls).length=pls.length:=by unfold plPtrs;rw [List.length_map]
 obtain ⟨pa,pc,hpv,-⟩:=hpl.len (by decide)
 rw [hplen,Nat.div_one] at hpv
 subst hpv
 obtain ⟨pg,po,rfl⟩:=slice_some hpl (by omega)
 have hpcell:w.cell? ⟨pg,po+i,none⟩=some (.pointer (some ⟨p.pb,0,none⟩)):=by
  have:=hpl.cell i (by omega)
  rw [this];unfold plPtrs;rw [List.getElem?_map,hp];rfl
 have hpgl:pg < w.heap.size:=(hpl.blk_lt (k:=pg) rfl).1
 have HEven:=h.even p (List.mem_of_getElem? hp)
 have HG:Hid (Good own w bw (.slice (some ⟨pg,po,none⟩) pls.length pc) hv hs pls fed):=h
 have HP0:Hid (PInv (growO own w 0) (w.alloc (.cells o.cells 79)) bw (.slice (some ⟨pg,po,none⟩) pls.length pc) hv hs pls):=h.inv.below ((Below.refl _ w).alloc (Nat.le_refl _) _)
 have hbox:=heap_alloc_new w (.cells o.cells 79)
 have HS0:Hid ((w.alloc (.cells o.cells 79)).heap.size=w.heap.size+1):=by show _=_;simp
 have HK0:Hid (Kept (fun k=>own k ≠ 99) w (w.alloc (.cells o.cells 79))):=(Kept.refl _ w).alloc _
 obtain ⟨c0,c1,fw,hbw⟩:=world_cells h.inv.inv.blk
 have hlen0:¬ ((pls.length:Nat):Int)=0:=by omega
 have hlen1:¬ pls.length=0:=by omega
 have hin:(i:Int) < (pls.length:Int):=by omega
 clear h
 obtain ⟨kind,n,source,s,ik,ikey,itime,ivalue,itag,q0,q1,q2,q3⟩:=o
 simp only [OpD.cells] at *
 have hc0:(w.alloc (.cells #[.int .i64 kind,.int .i64 n,.int .i64 source,.string s,.int .i64 ik,.string ikey,.int .i64 itime,.int .i64 ivalue,.int .u32 (itag:Int),.int .i64 q0,.int .i64 q1,.int .i64 q2,.int .i64 q3] 79)).cell? ⟨bw,0,none⟩=some (.slice (some ⟨pg,po,none⟩) pls.length pc):=(((Below.refl w.heap.size w).alloc (Nat.le_refl _) _).cell (p:=⟨bw,0,none⟩) hbw).trans c0
 have hpc0:(w.alloc (.cells #[.int .i64 kind,.int .i64 n,.int .i64 source,.string s,.int .i64 ik,.string ikey,.int .i64 itime,.int .i64 ivalue,.int .u32 (itag:Int),.int .i64 q0,.int .i64 q1,.int .i64 q2,.int .i64 q3] 79)).cell? ⟨pg,po+i,none⟩=some (.pointer (some ⟨p.pb,0,none⟩)):=(((Below.refl w.heap.size w).alloc (Nat.le_refl _) _).cell (p:=⟨pg,po+i,none⟩) hpgl).trans hpcell
 go_enter Tryz.func32,Tryz.ntmps32
 go_upto_region 5 with fail
 clear c0 c1 fw hpcell
 have b0:=fun j=>cell_of_row _ _ j _ _ _ hbox
 have b1:=b0 1
 simp only [List.getElem?_toArray,List.getElem?_cons_zero,List.getElem?_cons_succ] at b1
 have HBox:Hid ((w.alloc (.cells #[.int .i64 kind,.int .i64 n,.int .i64 source,.string s,.int .i64 ik,.string ikey,.int .i64 itime,.int .i64 ivalue,.int .u32 (itag:Int),.int .i64 q0,.int .i64 q1,.int .i64 q2,.int .i64 q3] 79)).heap[w.heap.size]?=some (.cells #[.int .i64 kind,.int .i64 n,.int .i64 source,.string s,.int .i64 ik,.string ikey,.int .i64 itime,.int .i64 ivalue,.int .u32 (itag:Int),.int .i64 q0,.int .i64 q1,.int .i64 q2,.int .i64 q3] 79 (0,0))):=hbox
 clear b0 hbox
 generalize w.alloc (.cells #[.int .i64 kind,.int .i64 n,.int .i64 source,.string s,.int .i64 ik,.string ikey,.int .i64 itime,.int .i64 ivalue,.int .u32 (itag:Int),.int .i64 q0,.int .i64 q1,.int .i64 q2,.int .i64 q3] 79)=W0 at *
 go_quiet ((go_at_call 54;exact Calls.quiet_of_same (hpk _)))
 have HP1:Hid (PInv (growO (growO own w 0) W0 0) (W0.drewN nq) bw (.slice (some ⟨pg,po,none⟩) pls.length pc) hv hs pls):=HP0.out.below (below_drewN (Below.refl _ W0) nq)
 have HK1:Hid (Kept (fun k=>own k ≠ 99) w (W0.drewN nq)):=HK0.out.drewN nq
 have HS1:Hid ((W0.drewN nq).heap.size=w.heap.size+1):=by show _=_;rw [<- HS0.out];simp
 have HBox1:Hid ((W0.drewN nq).heap[w.heap.size]?=some (.cells #[.int .i64 kind,.int .i64 n,.int .i64 source,.string s,.int .i64 ik,.string ikey,.int .i64 itime,.int .i64 ivalue,.int .u32 (itag:Int),.int .i64 q0,.int .i64 q1,.int .i64 q2,.int .i64 q3] 79 (0,0))):=by show _=_;simpa using HBox.out
 have HO1:Hid (∀ k,k < w.heap.size->growO (growO own w 0) W0 0 k=own k):=fun k hk=>(growO_old (by rw [HS0.out];omega)).trans (growO_old hk)
 have HOB:Hid (growO (growO own w 0) W0 0 w.heap.size=0):=(growO_old (by rw [HS0.out];omega)).trans (growO_new (Nat.le_refl _))
 clear HP0 HK0 HS0 HBox b1 hc0 hpc0 hpk
 generalize growO (growO own w 0) W0 0=own1 at *
 generalize W0.drewN nq=W1 at *
 have b0:W1.cell? ⟨w.heap.size,0,none⟩=some (.int .i64 kind):=cell_of_row _ _ 0 _ _ _ HBox1.out
 go_wp2_with fail
 go_ret
 exact ⟨by simp,_,_,_,_,_,⟨HP1.out,fun q hq=>⟨(HG.out.even q hq).1,(HG.out.even q hq).2.1,by have:=(HG.out.even q hq).2.2;omega⟩,HG.out.many,HG.out.evenT⟩,HO1.out,HK1.out,by omega⟩
end Go.Proofs.YtcfngdnmpogaoaaGreat
