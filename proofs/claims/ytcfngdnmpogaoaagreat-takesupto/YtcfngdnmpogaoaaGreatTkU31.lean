import Derived.Test.YtcfngdnmpogaoaaGreatTkU30
namespace Go.Proofs.YtcfngdnmpogaoaaGreat
open Go.RowKit
set_option maxHeartbeats 6400000
set_option maxRecDepth 20000
theorem step_open (own:Nat->Nat) (w:World) (bw:Nat) (ps hv:Value) (hs:List HoldD) (pls:List PlD) (fed:Nat) (o:OpD) (h:Good own w bw ps hv hs pls fed) (hf:o.Fits) (hn1:-9223372036854775808<=o.n) (hn2:o.n<=9223372036854775807) (hne:0 < pls.length) (hk:o.kind=4) (hff:fed+o.s.size<=5000000) :
 Calls Tryz.prog 32 #[.pointer (some ⟨bw,0,none⟩),.agg o.cells] w (StepL own bw hs (toldS pls) (fed+o.s.size) w):=by
 have hmany:=h.many
 obtain ⟨i,p,hpi,hp⟩:∃ (i:Nat) (p:PlD),pickW o.n (pls.length:Int)=(i:Int)/\pls[i]?=some p:=by
  obtain ⟨h1,h2⟩:=pickW_lt o.n (pls.length:Int) (by omega)
  exact ⟨(pickW o.n (pls.length:Int)).toNat,pls[(pickW o.n (pls.length:Int)).toNat]'(by omega),by omega,List.getElem?_eq_getElem _⟩
 have hil:i < pls.length:=(List.getElem?_eq_some_iff.1 hp).1
 have hpk:∀ W,Calls Tryz.prog 54 #[.int .i64 o.n,.int .i64 (pls.length:Int)] W fun e w'=>e=.returned (.int .i64 (i:Int))/\w'=W:=fun W=>by
  rw [<- hpi];exact pickL_any o.n pls.length W hn1 hn2 (by omega) (by omega)
 have hpl:=h.inv.prow
 have hplen:(plPtrs pls).length=pls.length:=by unfold plPtrs;rw [List.length_map]
 obtain ⟨pa,pc,hpv,-⟩:=hpl.len (by decide)
 rw [hplen,Nat.div_one] at hpv
 subst hpv
 obtain ⟨pg,po,rfl⟩:=slice_some hpl (by omega)
 have hpcell:w.cell? ⟨pg,po+i,none⟩=some (.pointer (some ⟨p.pb,0,none⟩)):=by
  have:=hpl.cell i (by omega)
  rw [this];unfold plPtrs;rw [List.getElem?_map,hp];rfl
 have hpgl:=(hpl.blk_lt (k:=pg) rfl).1
 have HEven:=h.even p (List.mem_of_getElem? hp)
 have HG:=hid h
 have HP0:Hid (PInv (growO own w 0) (w.alloc (.cells o.cells 79)) bw (.slice (some ⟨pg,po,none⟩) pls.length pc) hv hs pls):=h.inv.below ((Below.refl _ w).alloc (Nat.le_refl _) _)
 have hbox:=heap_alloc_new w (.cells o.cells 79)
 have HS0:Hid ((w.alloc (.cells o.cells 79)).heap.size=w.heap.size+1):=by show _=_;simp
 have HK0:Hid (Kept (fun k=>own k ≠ 99) w (w.alloc (.cells o.cells 79))):=(Kept.refl _ w).alloc _
 obtain ⟨c0,c1,fw,hbw⟩:=world_cells h.inv.inv.blk
 have hlen0:¬ ((pls.length:Nat):Int)=0:=by omega
 have hlen1:¬ pls.length=0:=by omega
 have hin:(i:Int) < (pls.length:Int):=by omega
 clear h
 obtain ⟨kind,n,source,s,ik,ikey,itime,ivalue,itag,q0,q1,q2,q3⟩:=o
 simp only [OpD.cells] at *
 subst hk
 have hc0:(w.alloc (.cells #[.int .i64 4,.int .i64 n,.int .i64 source,.string s,.int .i64 ik,.string ikey,.int .i64 itime,.int .i64 ivalue,.int .u32 (itag:Int),.int .i64 q0,.int .i64 q1,.int .i64 q2,.int .i64 q3] 79)).cell? ⟨bw,0,none⟩=some (.slice (some ⟨pg,po,none⟩) pls.length pc):=(((Below.refl w.heap.size w).alloc (Nat.le_refl _) _).cell (p:=⟨bw,0,none⟩) hbw).trans c0
 have hpc0:(w.alloc (.cells #[.int .i64 4,.int .i64 n,.int .i64 source,.string s,.int .i64 ik,.string ikey,.int .i64 itime,.int .i64 ivalue,.int .u32 (itag:Int),.int .i64 q0,.int .i64 q1,.int .i64 q2,.int .i64 q3] 79)).cell? ⟨pg,po+i,none⟩=some (.pointer (some ⟨p.pb,0,none⟩)):=(((Below.refl w.heap.size w).alloc (Nat.le_refl _) _).cell (p:=⟨pg,po+i,none⟩) hpgl).trans hpcell
 go_enter Tryz.func32,Tryz.ntmps32
 go_upto_region 5 with fail
 clear c0 c1 fw hpcell
 have b0:=fun j=>cell_of_row _ _ j _ _ _ hbox
 have b1:=b0 1
 simp only [List.getElem?_toArray,List.getElem?_cons_zero,List.getElem?_cons_succ] at b1
 have HBox:=hid hbox
 clear b0 hbox
 generalize w.alloc (.cells #[.int .i64 4,.int .i64 n,.int .i64 source,.string s,.int .i64 ik,.string ikey,.int .i64 itime,.int .i64 ivalue,.int .u32 (itag:Int),.int .i64 q0,.int .i64 q1,.int .i64 q2,.int .i64 q3] 79)=W0 at *
 go_quiet ((go_at_call 54;exact Calls.quiet_of_same (hpk _)))
 have HP1:Hid (PInv (growO (growO own w 0) W0 0) (W0.drewN nq) bw (.slice (some ⟨pg,po,none⟩) pls.length pc) hv hs pls):=HP0.out.below (below_drewN (Below.refl _ W0) nq)
 have HK1:=hid (HK0.out.drewN nq)
 have HS1:Hid ((W0.drewN nq).heap.size=w.heap.size+1):=by show _=_;rw [<- HS0.out];simp
 have HBox1:Hid ((W0.drewN nq).heap[w.heap.size]?=some (.cells #[.int .i64 4,.int .i64 n,.int .i64 source,.string s,.int .i64 ik,.string ikey,.int .i64 itime,.int .i64 ivalue,.int .u32 (itag:Int),.int .i64 q0,.int .i64 q1,.int .i64 q2,.int .i64 q3] 79 (0,0))):=by show _=_;simpa using HBox.out
 have HO1:Hid (∀ k,k < w.heap.size->growO (growO own w 0) W0 0 k=own k):=fun k hk=>(growO_old (by rw [HS0.out];omega)).trans (growO_old hk)
 have HOB:Hid (growO (growO own w 0) W0 0 w.heap.size=0):=(growO_old (by rw [HS0.out];omega)).trans (growO_new (Nat.le_refl _))
 clear HP0 HK0 HS0 HBox b1 hc0 hpc0 hpk
 generalize growO (growO own w 0) W0 0=own1 at *
 generalize W0.drewN nq=W1 at *
 have b0:W1.cell? ⟨w.heap.size,0,none⟩=some (.int .i64 4):=cell_of_row _ _ 0 _ _ _ HBox1.out
 obtain ⟨hev1,hev2,hev3⟩:=HEven
 obtain ⟨x,sp',hEe,hcode,href⟩:=open_two p.f p.r p.c p.sp p.rs source (HP1.out.pl i p hp).code.srcLen.1
 have hplA:=HP1.out.pl i p hp
 have p0:W1.cell? ⟨p.pb,0,none⟩=some (.pointer (some ⟨p.f,0,none⟩)):=cell_of_row _ _ 0 _ _ _ hplA.blk
 have p1:W1.cell? ⟨p.pb,1,none⟩=some (.pointer (some ⟨p.r,0,none⟩)):=cell_of_row _ _ 1 _ _ _ hplA.blk
 have b2:W1.cell? ⟨w.heap.size,2,none⟩=some (.int .i64 source):=cell_of_row _ _ 2 _ _ _ HBox1.out
 have HP2:Hid (PInv (growO own1 W1 0) W1.drew bw (.slice (some ⟨pg,po,none⟩) pls.length pc) hv hs pls):=HP1.out.below (Below.refl _ W1).drew
 have hpbl:p.pb < W1.heap.size:=(Array.getElem?_eq_some_iff.1 hplA.blk).1
 have hpbo:=hplA.mine
 have hszB:w.heap.size < W1.heap.size:=by rw [HS1.out];omega
 have HC:Hid (∀ (own2:Nat->Nat) (W:World) (pls2:List PlD),PInv own2 W bw (.slice (some ⟨pg,po,none⟩) pls.length pc) hv hs pls2->pls2[i]?=some p->Calls Tryz.prog 22 #[.pointer (some ⟨p.f,0,none⟩),.int .i64 source] W fun e w'=>e=.returned (.int .i64 x)/\PInv (growO own2 W (2*i+1)) w' bw (.slice (some ⟨pg,po,none⟩) pls.length pc) hv hs (pls2.set i { p with sp:=sp',rs:=p.rs })/\Kept (Own own2 W (2*i+1)) W w'):=fun own2 W pls2 hh hpp=>codeCall hh hpp hcode
 have HR:Hid (∀ (own2:Nat->Nat) (W:World) (pls2:List PlD),PInv own2 W bw (.slice (some ⟨pg,po,none⟩) pls.length pc) hv hs pls2->pls2[i]?=some { p with sp:=sp',rs:=p.rs }->Calls Tryz.prog 55 #[.pointer (some ⟨p.r,0,none⟩),.int .i64 source] W fun e w'=>e=.returned (.int .i64 x)/\PInv (growO own2 W (2*i+2)) w' bw (.slice (some ⟨pg,po,none⟩) pls.length pc) hv hs (pls2.set i { ({ p with sp:=sp',rs:=p.rs }:PlD) with sq:=sp',rq:=p.rs })/\Kept (Own own2 W (2*i+2)) W w'):=fun own2 W pls2 hh hpp=>refCall (p:={ p with sp:=sp',rs:=p.rs }) hh hpp (by simp only;rw [hev1,hev2];exact href)
 have HHeft:Hid (heft sp' p.rs<=fed+s.size):=by show heft sp' p.rs<=_;unfold heft at *;rw [hEe];omega
 have hp2:(pls.set i { p with sp:=sp',rs:=p.rs })[i]?=some { p with sp:=sp',rs:=p.rs }:=by rw [List.getElem?_set,if_pos rfl,if_pos hil]
 clear hcode href hplA hev1 hev2 hev3
 go_upto_region 8 with fail
 clear b0
 go_region_held3 (fun W=>W.cell? ⟨p.pb,0,none⟩=some (.pointer (some ⟨p.f,0,none⟩))/\W.cell? ⟨p.pb,1,none⟩=some (.pointer (some ⟨p.r,0,none⟩))/\W.cell? ⟨w.heap.size,2,none⟩=some (.int .i64 source)) (go_keep) (first
  | (go_at_call 22;refine (HC.out _ _ _ HP2.out hp).mono ?_;rintro e V1 ⟨rfl,hq1,hk1⟩;have HQ1:Hid (PInv (growO (growO own1 W1 0) W1.drew (2*i+1)) V1 bw (.slice (some ⟨pg,po,none⟩) pls.length pc) hv hs (pls.set i { p with sp:=sp',rs:=p.rs })):=hq1;have HKq:Hid (Kept (Own (growO own1 W1 0) W1.drew (2*i+1)) W1.drew V1):=hk1;have bp:V1.heap[p.pb]?=W1.heap[p.pb]?:=hk1.block p.pb hpbl (fun hh=>by have e1:=hh.1;have e2:growO own1 W1 0 p.pb=0:=(growO_old hpbl).trans hpbo;omega);have bb:V1.heap[w.heap.size]?=W1.heap[w.heap.size]?:=hk1.block w.heap.size hszB (fun hh=>by have e1:=hh.1;have e2:growO own1 W1 0 w.heap.size=0:=(growO_old hszB).trans HOB.out;omega);have k0:V1.cell? ⟨p.pb,0,none⟩=some (.pointer (some ⟨p.f,0,none⟩)):=(by rw [<- p0];simp only [World.cell?,bp]);have k1:V1.cell? ⟨p.pb,1,none⟩=some (.pointer (some ⟨p.r,0,none⟩)):=(by rw [<- p1];simp only [World.cell?,bp]);have k2:V1.cell? ⟨w.heap.size,2,none⟩=some (.int .i64 source):=(by rw [<- b2];simp only [World.cell?,bb]);clear hq1 hk1)
  | (go_at_call 55;refine (HR.out _ _ _ HQ1.out hp2).mono ?_;rintro e V2 ⟨rfl,hq2,hk2⟩;have HQ2:Hid (PInv (growO (growO (growO own1 W1 0) W1.drew (2*i+1)) V1 (2*i+2)) V2 bw (.slice (some ⟨pg,po,none⟩) pls.length pc) hv hs ((pls.set i { p with sp:=sp',rs:=p.rs }).set i { ({ p with sp:=sp',rs:=p.rs }:PlD) with sq:=sp',rq:=p.rs })):=hq2;have HKr:Hid (Kept (Own (growO (growO own1 W1 0) W1.drew (2*i+1)) V1 (2*i+2)) V1 V2):=hk2;have hV1:W1.heap.size<=V1.heap.size:=HKq.out.size;have bp2:V2.heap[p.pb]?=V1.heap[p.pb]?:=hk2.block p.pb (by omega) (fun hh=>by have e1:=hh.1;have e2:growO (growO own1 W1 0) W1.drew (2*i+1) p.pb=0:=(growO_old hpbl).trans ((growO_old hpbl).trans hpbo);omega);have bb2:V2.heap[w.heap.size]?=V1.heap[w.heap.size]?:=hk2.block w.heap.size (by omega) (fun hh=>by have e1:=hh.1;have e2:growO (growO own1 W1 0) W1.drew (2*i+1) w.heap.size=0:=(growO_old hszB).trans ((growO_old hszB).trans HOB.out);omega);have l0:V2.cell? ⟨p.pb,0,none⟩=some (.pointer (some ⟨p.f,0,none⟩)):=(by rw [<- k0];simp only [World.cell?,bp2]);have l1:V2.cell? ⟨p.pb,1,none⟩=some (.pointer (some ⟨p.r,0,none⟩)):=(by rw [<- k1];simp only [World.cell?,bp2]);have l2:V2.cell? ⟨w.heap.size,2,none⟩=some (.int .i64 source):=(by rw [<- k2];simp only [World.cell?,bb2]);clear hq2 hk2))
 clear p0 p1 b2 k0 k1 k2 l0 l1 l2 bp bb bp2 bb2
 go_wp2_with fail
 go_ret
 have hi4:i < 4:=by omega
 have hsW:w.heap.size < W1.heap.size:=by rw [HS1.out];omega
 have hsD:W1.drew.heap.size=W1.heap.size:=rfl
 have hag:∀ k,k < w.heap.size->growO own1 W1 0 k=own k:=fun k hk=>(growO_old (by omega)).trans (HO1.out k hk)
 have hag2:∀ k,k < w.heap.size->growO (growO own1 W1 0) W1.drew (2*i+1) k=own k:=fun k hk=>(growO_old (by omega)).trans (hag k hk)
 refine ⟨rfl,_,_,_,_,_,HG.out.two (by omega) hp HHeft.out HQ2.out,fun k hk=>(growO_old (by omega)).trans (hag2 k hk),?_,by (rw [toldS_two hp];omega;rfl)⟩
 refine (HK1.out.drew.step HKq.out (fun k hk hh=>?_)).step HKr.out (fun k hk hh=>?_)
 . have e1:=hh.1
   rw [hag k hk] at e1;omega
 . have e1:=hh.1
   rw [hag2 k hk] at e1;omega
theorem step_close (own:Nat->Nat) (w:World) (bw:Nat) (ps hv:Value) (hs:List HoldD) (pls:List PlD) (fed:Nat) (o:OpD) (h:Good own w bw ps hv hs pls fed) (hf:o.Fits) (hn1:-9223372036854775808<=o.n) (hn2:o.n<=9223372036854775807) (hne:0 < pls.length) (hk:o.kind=6) (hff:fed+o.s.size<=5000000) :
 Calls Tryz.prog 32 #[.pointer (some ⟨bw,0,none⟩),.agg o.cells] w (StepL own bw hs (toldS pls) (fed+o.s.size) w):=by
 have hmany:=h.many
 obtain ⟨i,p,hpi,hp⟩:∃ (i:Nat) (p:PlD),pickW o.n (pls.length:Int)=(i:Int)/\pls[i]?=some p:=by
  obtain ⟨h1,h2⟩:=pickW_lt o.n (pls.length:Int) (by omega)
  exact ⟨(pickW o.n (pls.length:Int)).toNat,pls[(pickW o.n (pls.length:Int)).toNat]'(by omega),by omega,List.getElem?_eq_getElem _⟩
 have hil:i < pls.length:=(List.getElem?_eq_some_iff.1 hp).1
 have hpk:∀ W,Calls Tryz.prog 54 #[.int .i64 o.n,.int .i64 (pls.length:Int)] W fun e w'=>e=.returned (.int .i64 (i:Int))/\w'=W:=fun W=>by
  rw [<- hpi];exact pickL_any o.n pls.length W hn1 hn2 (by omega) (by omega)
 have hpl:=h.inv.prow
 have hplen:(plPtrs pls).length=pls.length:=by unfold plPtrs;rw [List.length_map]
 obtain ⟨pa,pc,hpv,-⟩:=hpl.len (by decide)
 rw [hplen,Nat.div_one] at hpv
 subst hpv
 obtain ⟨pg,po,rfl⟩:=slice_some hpl (by omega)
 have hpcell:w.cell? ⟨pg,po+i,none⟩=some (.pointer (some ⟨p.pb,0,none⟩)):=by
  have:=hpl.cell i (by omega)
  rw [this];unfold plPtrs;rw [List.getElem?_map,hp];rfl
 have hpgl:=(hpl.blk_lt (k:=pg) rfl).1
 have HEven:=h.even p (List.mem_of_getElem? hp)
 have HG:=hid h
 have HP0:Hid (PInv (growO own w 0) (w.alloc (.cells o.cells 79)) bw (.slice (some ⟨pg,po,none⟩) pls.length pc) hv hs pls):=h.inv.below ((Below.refl _ w).alloc (Nat.le_refl _) _)
 have hbox:=heap_alloc_new w (.cells o.cells 79)
 have HS0:Hid ((w.alloc (.cells o.cells 79)).heap.size=w.heap.size+1):=by show _=_;simp
 have HK0:Hid (Kept (fun k=>own k ≠ 99) w (w.alloc (.cells o.cells 79))):=(Kept.refl _ w).alloc _
 obtain ⟨c0,c1,fw,hbw⟩:=world_cells h.inv.inv.blk
 have hlen0:¬ ((pls.length:Nat):Int)=0:=by omega
 have hlen1:¬ pls.length=0:=by omega
 have hin:(i:Int) < (pls.length:Int):=by omega
 clear h
 obtain ⟨kind,n,source,s,ik,ikey,itime,ivalue,itag,q0,q1,q2,q3⟩:=o
 simp only [OpD.cells] at *
 subst hk
 have hc0:(w.alloc (.cells #[.int .i64 6,.int .i64 n,.int .i64 source,.string s,.int .i64 ik,.string ikey,.int .i64 itime,.int .i64 ivalue,.int .u32 (itag:Int),.int .i64 q0,.int .i64 q1,.int .i64 q2,.int .i64 q3] 79)).cell? ⟨bw,0,none⟩=some (.slice (some ⟨pg,po,none⟩) pls.length pc):=(((Below.refl w.heap.size w).alloc (Nat.le_refl _) _).cell (p:=⟨bw,0,none⟩) hbw).trans c0
 have hpc0:(w.alloc (.cells #[.int .i64 6,.int .i64 n,.int .i64 source,.string s,.int .i64 ik,.string ikey,.int .i64 itime,.int .i64 ivalue,.int .u32 (itag:Int),.int .i64 q0,.int .i64 q1,.int .i64 q2,.int .i64 q3] 79)).cell? ⟨pg,po+i,none⟩=some (.pointer (some ⟨p.pb,0,none⟩)):=(((Below.refl w.heap.size w).alloc (Nat.le_refl _) _).cell (p:=⟨pg,po+i,none⟩) hpgl).trans hpcell
 go_enter Tryz.func32,Tryz.ntmps32
 go_upto_region 5 with fail
 clear c0 c1 fw hpcell
 have b0:=fun j=>cell_of_row _ _ j _ _ _ hbox
 have b1:=b0 1
 simp only [List.getElem?_toArray,List.getElem?_cons_zero,List.getElem?_cons_succ] at b1
 have HBox:=hid hbox
 clear b0 hbox
 generalize w.alloc (.cells #[.int .i64 6,.int .i64 n,.int .i64 source,.string s,.int .i64 ik,.string ikey,.int .i64 itime,.int .i64 ivalue,.int .u32 (itag:Int),.int .i64 q0,.int .i64 q1,.int .i64 q2,.int .i64 q3] 79)=W0 at *
 go_quiet ((go_at_call 54;exact Calls.quiet_of_same (hpk _)))
 have HP1:Hid (PInv (growO (growO own w 0) W0 0) (W0.drewN nq) bw (.slice (some ⟨pg,po,none⟩) pls.length pc) hv hs pls):=HP0.out.below (below_drewN (Below.refl _ W0) nq)
 have HK1:=hid (HK0.out.drewN nq)
 have HS1:Hid ((W0.drewN nq).heap.size=w.heap.size+1):=by show _=_;rw [<- HS0.out];simp
 have HBox1:Hid ((W0.drewN nq).heap[w.heap.size]?=some (.cells #[.int .i64 6,.int .i64 n,.int .i64 source,.string s,.int .i64 ik,.string ikey,.int .i64 itime,.int .i64 ivalue,.int .u32 (itag:Int),.int .i64 q0,.int .i64 q1,.int .i64 q2,.int .i64 q3] 79 (0,0))):=by show _=_;simpa using HBox.out
 have HO1:Hid (∀ k,k < w.heap.size->growO (growO own w 0) W0 0 k=own k):=fun k hk=>(growO_old (by rw [HS0.out];omega)).trans (growO_old hk)
 have HOB:Hid (growO (growO own w 0) W0 0 w.heap.size=0):=(growO_old (by rw [HS0.out];omega)).trans (growO_new (Nat.le_refl _))
 clear HP0 HK0 HS0 HBox b1 hc0 hpc0 hpk
 generalize growO (growO own w 0) W0 0=own1 at *
 generalize W0.drewN nq=W1 at *
 have b0:W1.cell? ⟨w.heap.size,0,none⟩=some (.int .i64 6):=cell_of_row _ _ 0 _ _ _ HBox1.out
 obtain ⟨hev1,hev2,hev3⟩:=HEven
 have hcl:p.sp.E.length<=200000:=by unfold heft at hev3;omega
 obtain ⟨x,sp',rs',hEe,hsm,hcode,href⟩:=close_two p.f p.r p.c p.sp p.rs source (HP1.out.pl i p hp).code.srcLen.1 (HP1.out.pl i p hp).conf hcl (HP1.out.pl i p hp).code.srcLen.2
 have hplA:=HP1.out.pl i p hp
 have p0:W1.cell? ⟨p.pb,0,none⟩=some (.pointer (some ⟨p.f,0,none⟩)):=cell_of_row _ _ 0 _ _ _ hplA.blk
 have p1:W1.cell? ⟨p.pb,1,none⟩=some (.pointer (some ⟨p.r,0,none⟩)):=cell_of_row _ _ 1 _ _ _ hplA.blk
 have b2:W1.cell? ⟨w.heap.size,2,none⟩=some (.int .i64 source):=cell_of_row _ _ 2 _ _ _ HBox1.out
 have HP2:Hid (PInv (growO own1 W1 0) W1.drew bw (.slice (some ⟨pg,po,none⟩) pls.length pc) hv hs pls):=HP1.out.below (Below.refl _ W1).drew
 have hpbl:p.pb < W1.heap.size:=(Array.getElem?_eq_some_iff.1 hplA.blk).1
 have hpbo:=hplA.mine
 have hszB:w.heap.size < W1.heap.size:=by rw [HS1.out];omega
 have HC:Hid (∀ (own2:Nat->Nat) (W:World) (pls2:List PlD),PInv own2 W bw (.slice (some ⟨pg,po,none⟩) pls.length pc) hv hs pls2->pls2[i]?=some p->Calls Tryz.prog 49 #[.pointer (some ⟨p.f,0,none⟩),.int .i64 source] W fun e w'=>e=.returned (.int .i64 x)/\PInv (growO own2 W (2*i+1)) w' bw (.slice (some ⟨pg,po,none⟩) pls.length pc) hv hs (pls2.set i { p with sp:=sp',rs:=rs' })/\Kept (Own own2 W (2*i+1)) W w'):=fun own2 W pls2 hh hpp=>codeCall hh hpp hcode
 have HR:Hid (∀ (own2:Nat->Nat) (W:World) (pls2:List PlD),PInv own2 W bw (.slice (some ⟨pg,po,none⟩) pls.length pc) hv hs pls2->pls2[i]?=some { p with sp:=sp',rs:=rs' }->Calls Tryz.prog 60 #[.pointer (some ⟨p.r,0,none⟩),.int .i64 source] W fun e w'=>e=.returned (.int .i64 x)/\PInv (growO own2 W (2*i+2)) w' bw (.slice (some ⟨pg,po,none⟩) pls.length pc) hv hs (pls2.set i { ({ p with sp:=sp',rs:=rs' }:PlD) with sq:=sp',rq:=rs' })/\Kept (Own own2 W (2*i+2)) W w'):=fun own2 W pls2 hh hpp=>refCall (p:={ p with sp:=sp',rs:=rs' }) hh hpp (by simp only;rw [hev1,hev2];exact href)
 have HHeft:Hid (heft sp' rs'<=fed+s.size):=by show heft sp' rs'<=_;unfold heft at *;rw [hEe];omega
 have hp2:(pls.set i { p with sp:=sp',rs:=rs' })[i]?=some { p with sp:=sp',rs:=rs' }:=by rw [List.getElem?_set,if_pos rfl,if_pos hil]
 clear hcode href hplA hev1 hev2 hev3
 go_upto_region 17 with fail
 clear b0
 go_region_held3 (fun W=>W.cell? ⟨p.pb,0,none⟩=some (.pointer (some ⟨p.f,0,none⟩))/\W.cell? ⟨p.pb,1,none⟩=some (.pointer (some ⟨p.r,0,none⟩))/\W.cell? ⟨w.heap.size,2,none⟩=some (.int .i64 source)) (go_keep) (first
  | (go_at_call 49;refine (HC.out _ _ _ HP2.out hp).mono ?_;rintro e V1 ⟨rfl,hq1,hk1⟩;have HQ1:Hid (PInv (growO (growO own1 W1 0) W1.drew (2*i+1)) V1 bw (.slice (some ⟨pg,po,none⟩) pls.length pc) hv hs (pls.set i { p with sp:=sp',rs:=rs' })):=hq1;have HKq:Hid (Kept (Own (growO own1 W1 0) W1.drew (2*i+1)) W1.drew V1):=hk1;have bp:V1.heap[p.pb]?=W1.heap[p.pb]?:=hk1.block p.pb hpbl (fun hh=>by have e1:=hh.1;have e2:growO own1 W1 0 p.pb=0:=(growO_old hpbl).trans hpbo;omega);have bb:V1.heap[w.heap.size]?=W1.heap[w.heap.size]?:=hk1.block w.heap.size hszB (fun hh=>by have e1:=hh.1;have e2:growO own1 W1 0 w.heap.size=0:=(growO_old hszB).trans HOB.out;omega);have k0:V1.cell? ⟨p.pb,0,none⟩=some (.pointer (some ⟨p.f,0,none⟩)):=(by rw [<- p0];simp only [World.cell?,bp]);have k1:V1.cell? ⟨p.pb,1,none⟩=some (.pointer (some ⟨p.r,0,none⟩)):=(by rw [<- p1];simp only [World.cell?,bp]);have k2:V1.cell? ⟨w.heap.size,2,none⟩=some (.int .i64 source):=(by rw [<- b2];simp only [World.cell?,bb]);clear hq1 hk1)
  | (go_at_call 60;refine (HR.out _ _ _ HQ1.out hp2).mono ?_;rintro e V2 ⟨rfl,hq2,hk2⟩;have HQ2:Hid (PInv (growO (growO (growO own1 W1 0) W1.drew (2*i+1)) V1 (2*i+2)) V2 bw (.slice (some ⟨pg,po,none⟩) pls.length pc) hv hs ((pls.set i { p with sp:=sp',rs:=rs' }).set i { ({ p with sp:=sp',rs:=rs' }:PlD) with sq:=sp',rq:=rs' })):=hq2;have HKr:Hid (Kept (Own (growO (growO own1 W1 0) W1.drew (2*i+1)) V1 (2*i+2)) V1 V2):=hk2;have hV1:W1.heap.size<=V1.heap.size:=HKq.out.size;have bp2:V2.heap[p.pb]?=V1.heap[p.pb]?:=hk2.block p.pb (by omega) (fun hh=>by have e1:=hh.1;have e2:growO (growO own1 W1 0) W1.drew (2*i+1) p.pb=0:=(growO_old hpbl).trans ((growO_old hpbl).trans hpbo);omega);have bb2:V2.heap[w.heap.size]?=V1.heap[w.heap.size]?:=hk2.block w.heap.size (by omega) (fun hh=>by have e1:=hh.1;have e2:growO (growO own1 W1 0) W1.drew (2*i+1) w.heap.size=0:=(growO_old hszB).trans ((growO_old hszB).trans HOB.out);omega);have l0:V2.cell? ⟨p.pb,0,none⟩=some (.pointer (some ⟨p.f,0,none⟩)):=(by rw [<- k0];simp only [World.cell?,bp2]);have l1:V2.cell? ⟨p.pb,1,none⟩=some (.pointer (some ⟨p.r,0,none⟩)):=(by rw [<- k1];simp only [World.cell?,bp2]);have l2:V2.cell? ⟨w.heap.size,2,none⟩=some (.int .i64 source):=(by rw [<- k2];simp only [World.cell?,bb2]);clear hq2 hk2))
 clear p0 p1 b2 k0 k1 k2 l0 l1 l2 bp bb bp2 bb2
 go_wp2_with fail
 go_ret
 have hi4:i < 4:=by omega
 have hsW:w.heap.size < W1.heap.size:=by rw [HS1.out];omega
 have hsD:W1.drew.heap.size=W1.heap.size:=rfl
 have hag:∀ k,k < w.heap.size->growO own1 W1 0 k=own k:=fun k hk=>(growO_old (by omega)).trans (HO1.out k hk)
 have hag2:∀ k,k < w.heap.size->growO (growO own1 W1 0) W1.drew (2*i+1) k=own k:=fun k hk=>(growO_old (by omega)).trans (hag k hk)
 refine ⟨rfl,_,_,_,_,_,HG.out.two (by omega) hp HHeft.out HQ2.out,fun k hk=>(growO_old (by omega)).trans (hag2 k hk),?_,by (rw [toldS_two hp];omega;rfl)⟩
 refine (HK1.out.drew.step HKq.out (fun k hk hh=>?_)).step HKr.out (fun k hk hh=>?_)
 . have e1:=hh.1
   rw [hag k hk] at e1;omega
 . have e1:=hh.1
   rw [hag2 k hk] at e1;omega
end Go.Proofs.YtcfngdnmpogaoaaGreat
