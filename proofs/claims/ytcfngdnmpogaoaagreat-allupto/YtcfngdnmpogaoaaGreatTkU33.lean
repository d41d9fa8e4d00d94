import Derived.Test.YtcfngdnmpogaoaaGreatTkU30
namespace Go.Proofs.YtcfngdnmpogaoaaGreat
open Go.RowKit Go.MuLone
set_option maxHeartbeats 6400000
set_option maxRecDepth 20000
theorem row_front {w:World} {e:TypeId} {sz g off n cap:Nat} {xs:List Value} (h:Row w e sz (.slice (some ⟨g,off,none⟩) n cap) xs) (m:Nat) (hm:m<=n):Row w e sz (.slice (some ⟨g,off,none⟩) m cap) (xs.take (m*sz)):=by
 rcases h with ⟨h1,_⟩ | ⟨ge,o,k,c,cur,h1,hg,h3,h4,h5,h6,h7⟩
 . cases h1
 . cases h1
   have hms:m*sz<=n*sz:=Nat.mul_le_mul hm (Nat.le_refl _)
   refine .inr ⟨g,off,m,cap,cur,rfl,hg,by omega,h4,h5,by rw [List.length_take];omega,fun j hj=>?_⟩
   rw [List.getElem?_take,if_pos hj]
   exact h7 j (by omega)
theorem PInv.plOther {own:Nat->Nat} {W:World} {bw:Nat} {ps hv:Value} {hs:List HoldD} {pls:List PlD} (h:PInv own W bw ps hv hs pls) {p:PlD} (hp:p ∈ pls):W.heap[p.pb]?=some (.cells #[.pointer (some ⟨p.f,0,none⟩),.pointer (some ⟨p.r,0,none⟩)] 128 (0,0)):=by
 obtain ⟨i,hi,rfl⟩:=List.mem_iff_getElem.1 hp
 exact (h.pl i _ (List.getElem?_eq_getElem hi)).blk
theorem keep_pl (own:Nat->Nat) (W:World) (bw hb B:Nat) (ps hv vb:Value) (hs:List HoldD) (pls:List PlD) (xs:List Value) (h:PInv own W bw ps hv hs pls)
 (hblk:W.heap[hb]?=some (.cells #[vb,.slice none 0 0,.slice none 0 0,.int .i64 0] 135 (0,0))) (hrow:Row W 5 1 vb xs)
 (hB:∀ d ∈ hs,d.hb < B/\(∀ k,d.vb.ownBlock=some k->k < B)/\(∀ k,d.vt.ownBlock=some k->k < B)/\(∀ k,d.vw.ownBlock=some k->k < B))
 (hBh:B<=hb) (hBv:∀ k,vb.ownBlock=some k->B<=k) (ohb:own hb=0) (ovb:∀ k,vb.ownBlock=some k->own k=0) (hl1:hs.length+4<=17592186044416) (hl2:xs.length+3<=140737488355328) :
 Calls Tryz.prog 59 #[.pointer (some ⟨bw,0,none⟩),.pointer (some ⟨hb,0,none⟩)] W fun e w'=>(∃ v,e=.returned v) /\
  ∃ hs' hv',hs'.length=4/\PInv (growO own W 0) w' bw ps hv' (hs++hs') pls/\Kept (fun k=>own k=0) W w':=by
 refine (hkeep_any bw hb ps hv vb hs xs B W h.inv hblk hrow hB hBh hBv (fun k=>own k=0\/W.heap.size<=k) (.inl ohb) (fun k hk=>.inl (ovb k hk)) (fun k hk=>.inr hk) hl1 hl2).mono ?_
 rintro e w' ⟨hv0,hs',hv',h4,hW,hk,hq,hn⟩
 have hX:∀ k,(k=bw\/hv.ownBlock=some k\/k=hb\/vb.ownBlock=some k)->own k=0:=fun k hh=>by
  rcases hh with rfl | hh | rfl | hh
  . exact h.obw
  . exact h.ohv k hh
  . exact ohb
  . exact ovb k hh
 refine ⟨hv0,hs',hv',h4,h.mine hk (fun k _ hh=>hX k hh) hW (h.prow.kept hk (fun k hp hh=>?_)) (fun k hh=>?_) (fun k hh=>.inl (h.ops k hh)) (fun d hd=>?_) (fun p hp=>?_),hk.mono (fun k _ hh=>hX k hh)⟩
 . rcases hh with rfl | hh | rfl | hh
   . exact h.prow.ne_block h.inv.blk (by decide) hp
   . exact h.prow.apart h.inv.row (by decide) hp hh
   . exact h.prow.ne_block hblk (by decide) hp
   . exact h.prow.apart hrow (by decide) hp hh
 . rcases hq k hh with hh | hh
   . exact .inl (h.ohv k hh)
   . exact hh
 . rcases List.mem_append.1 hd with hd | hd
   . obtain ⟨b1,b2,b3,b4⟩:=h.oh d hd
     exact ⟨.inl b1,fun k hk=>.inl (b2 k hk),fun k hk=>.inl (b3 k hk),fun k hk=>.inl (b4 k hk)⟩
   . exact hn d hd
 . have hb2:=h.plOther hp
   refine hk.block p.pb (Array.getElem?_eq_some_iff.1 hb2).1 (fun hh=>?_)
   rcases hh with hh | hh | hh | hh
   . have:=h.inv.blk;rw [<- hh,hb2] at this;simp at this
   . exact h.inv.row.ne_block hb2 (by decide) hh
   . rw [<- hh,hb2] at hblk;simp at hblk
   . exact hrow.ne_block hb2 (by decide) hh
theorem step_feed (own:Nat->Nat) (w:World) (bw:Nat) (ps hv:Value) (hs:List HoldD) (pls:List PlD) (fed:Nat) (o:OpD) (h:Good own w bw ps hv hs pls fed) (hf:o.Fits) (hn1:-9223372036854775808<=o.n) (hn2:o.n<=9223372036854775807) (hne:0 < pls.length) (hk:o.kind=5) (hff:fed+o.s.size<=5000000) (hl:hs.length+4<=17592186044416) :
 Calls Tryz.prog 32 #[.pointer (some ⟨bw,0,none⟩),.agg o.cells] w (StepL own bw hs (toldS pls) (fed+o.s.size) w):=by
 have hmany:=h.many
 obtain ⟨i,p,hpi,hp⟩:∃ (i:Nat) (p:PlD),pickW o.n (pls.length:Int)=(i:Int)/\pls[i]?=some p:=by
  obtain ⟨h1,h2⟩:=pickW_lt o.n (pls.length:Int) (by omega)
  exact ⟨(pickW o.n (pls.length:Int)).toNat,pls[(pickW o.n (pls.length:Int)).toNat]'(by omega),by omega,List.getElem?_eq_getElem _⟩
 have hil:i < pls.length:=(List.getElem?_eq_some_iff.1 hp).1
 have hpk:∀ W,Calls Tryz.prog 54 #[.int .i64 o.n,.int .i64 (pls.length:Int)] W fun e w'=>e=.returned (.int .i64 (i:Int))/\w'=W:=fun W=>by
  rw [<- hpi];exact pickL_any o.n pls.length W hn1 hn2 (by omega) (by omega)
 have hpl:=h.inv.prow
 have hplen:(plPtrs pls).length=pls.length:=by unfold plPtrs;rw [List.length_map]
 obtain ⟨pa,pc,hpv,-⟩:=hpl.len (by decide)
 rw [hplen,Nat.div_one] at hpv
 subst hpv
 obtain ⟨pg,po,rfl⟩:=slice_some hpl (by omega)
 have hpcell:w.cell? ⟨pg,po+i,none⟩=some (.pointer (some ⟨p.pb,0,none⟩)):=by
  have:=hpl.cell i (by omega)
  rw [this];unfold plPtrs;rw [List.getElem?_map,hp];rfl
 have hpgl:pg < w.heap.size:=(hpl.blk_lt (k:=pg) rfl).1
 have HEven:=h.even p (List.mem_of_getElem? hp)
 have HG:Hid (Good own w bw (.slice (some ⟨pg,po,none⟩) pls.length pc) hv hs pls fed):=h
 have HP0:Hid (PInv (growO own w 0) (w.alloc (.cells o.cells 79)) bw (.slice (some ⟨pg,po,none⟩) pls.length pc) hv hs pls):=h.inv.below ((Below.refl _ w).alloc (Nat.le_refl _) _)
 have hbox:=heap_alloc_new w (.cells o.cells 79)
 have HS0:Hid ((w.alloc (.cells o.cells 79)).heap.size=w.heap.size+1):=by show _=_;simp
 have HK0:Hid (Kept (fun k=>own k ≠ 99) w (w.alloc (.cells o.cells 79))):=(Kept.refl _ w).alloc _
 obtain ⟨c0,c1,fw,hbw⟩:=world_cells h.inv.inv.blk
 have hlen0:¬ ((pls.length:Nat):Int)=0:=by omega
 have hlen1:¬ pls.length=0:=by omega
 have hin:(i:Int) < (pls.length:Int):=by omega
 clear h
 obtain ⟨kind,n,source,s,ik,ikey,itime,ivalue,itag,q0,q1,q2,q3⟩:=o
 simp only [OpD.cells] at *
 subst hk
 have hc0:(w.alloc (.cells #[.int .i64 5,.int .i64 n,.int .i64 source,.string s,.int .i64 ik,.string ikey,.int .i64 itime,.int .i64 ivalue,.int .u32 (itag:Int),.int .i64 q0,.int .i64 q1,.int .i64 q2,.int .i64 q3] 79)).cell? ⟨bw,0,none⟩=some (.slice (some ⟨pg,po,none⟩) pls.length pc):=(((Below.refl w.heap.size w).alloc (Nat.le_refl _) _).cell (p:=⟨bw,0,none⟩) hbw).trans c0
 have hpc0:(w.alloc (.cells #[.int .i64 5,.int .i64 n,.int .i64 source,.string s,.int .i64 ik,.string ikey,.int .i64 itime,.int .i64 ivalue,.int .u32 (itag:Int),.int .i64 q0,.int .i64 q1,.int .i64 q2,.int .i64 q3] 79)).cell? ⟨pg,po+i,none⟩=some (.pointer (some ⟨p.pb,0,none⟩)):=(((Below.refl w.heap.size w).alloc (Nat.le_refl _) _).cell (p:=⟨pg,po+i,none⟩) hpgl).trans hpcell
 go_enter Tryz.func32,Tryz.ntmps32
 go_upto_region 5 with fail
 clear c0 c1 fw hpcell
 have b0:=fun j=>cell_of_row _ _ j _ _ _ hbox
 have b1:=b0 1
 simp only [List.getElem?_toArray,List.getElem?_cons_zero,List.getElem?_cons_succ] at b1
 have HBox:Hid ((w.alloc (.cells #[.int .i64 5,.int .i64 n,.int .i64 source,.string s,.int .i64 ik,.string ikey,.int .i64 itime,.int .i64 ivalue,.int .u32 (itag:Int),.int .i64 q0,.int .i64 q1,.int .i64 q2,.int .i64 q3] 79)).heap[w.heap.size]?=some (.cells #[.int .i64 5,.int .i64 n,.int .i64 source,.string s,.int .i64 ik,.string ikey,.int .i64 itime,.int .i64 ivalue,.int .u32 (itag:Int),.int .i64 q0,.int .i64 q1,.int .i64 q2,.int .i64 q3] 79 (0,0))):=hbox
 clear b0 hbox
 generalize w.alloc (.cells #[.int .i64 5,.int .i64 n,.int .i64 source,.string s,.int .i64 ik,.string ikey,.int .i64 itime,.int .i64 ivalue,.int .u32 (itag:Int),.int .i64 q0,.int .i64 q1,.int .i64 q2,.int .i64 q3] 79)=W0 at *
 go_quiet ((go_at_call 54;exact Calls.quiet_of_same (hpk _)))
 have HP1:Hid (PInv (growO (growO own w 0) W0 0) (W0.drewN nq) bw (.slice (some ⟨pg,po,none⟩) pls.length pc) hv hs pls):=HP0.out.below (below_drewN (Below.refl _ W0) nq)
 have HK1:Hid (Kept (fun k=>own k ≠ 99) w (W0.drewN nq)):=HK0.out.drewN nq
 have HS1:Hid ((W0.drewN nq).heap.size=w.heap.size+1):=by show _=_;rw [<- HS0.out];simp
 have HBox1:Hid ((W0.drewN nq).heap[w.heap.size]?=some (.cells #[.int .i64 5,.int .i64 n,.int .i64 source,.string s,.int .i64 ik,.string ikey,.int .i64 itime,.int .i64 ivalue,.int .u32 (itag:Int),.int .i64 q0,.int .i64 q1,.int .i64 q2,.int .i64 q3] 79 (0,0))):=by show _=_;simpa using HBox.out
 have HO1:Hid (∀ k,k < w.heap.size->growO (growO own w 0) W0 0 k=own k):=fun k hk=>(growO_old (by rw [HS0.out];omega)).trans (growO_old hk)
 have HOB:Hid (growO (growO own w 0) W0 0 w.heap.size=0):=(growO_old (by rw [HS0.out];omega)).trans (growO_new (Nat.le_refl _))
 clear HP0 HK0 HS0 HBox b1 hc0 hpc0 hpk
 generalize growO (growO own w 0) W0 0=own1 at *
 generalize W0.drewN nq=W1 at *
 have b0:W1.cell? ⟨w.heap.size,0,none⟩=some (.int .i64 5):=cell_of_row _ _ 0 _ _ _ HBox1.out
 obtain ⟨hev1,hev2,hev3⟩:=HEven
 have HBnd:Hid (∀ d ∈ hs,d.hb < w.heap.size/\(∀ k,d.vb.ownBlock=some k->k < w.heap.size)/\(∀ k,d.vt.ownBlock=some k->k < w.heap.size)/\(∀ k,d.vw.ownBlock=some k->k < w.heap.size)):=HG.out.inv.inv.bound
 obtain ⟨x,sp',rs',hheft,hcode,href⟩:=feed_two p.f p.r p.c p.sp p.rs source s (HP1.out.pl i p hp).code.srcLen.1 (HP1.out.pl i p hp).conf (by omega) (HP1.out.pl i p hp).code.srcLen.2
 have HHeft:Hid (heft sp' rs'<=fed+s.size):=by show _<=_;omega
 have Hcode:Hid (∀ (w:World) (F:Nat->Prop) (bv:Value),FlowOn w p.f p.c p.sp p.rs F p.T->Row w 5 1 bv (s.data.toList.map byteV)->Calls Tryz.prog 20 #[.pointer (some ⟨p.f,0,none⟩),.int .i64 source,bv] w fun e w'=>e=.returned (.int .i64 x)/\FlowOn w' p.f p.c sp' rs' (Grown F w) p.T/\Kept F w w'):=hcode
 have HRf:Hid (∀ (own2:Nat->Nat) (W:World) (pls2:List PlD),PInv own2 W bw (.slice (some ⟨pg,po,none⟩) pls.length pc) hv hs pls2->pls2[i]?=some { p with sp:=sp',rs:=rs' }->Calls Tryz.prog 57 #[.pointer (some ⟨p.r,0,none⟩),.int .i64 source,.string s] W fun e w'=>e=.returned (.int .i64 x)/\PInv (growO own2 W (2*i+2)) w' bw (.slice (some ⟨pg,po,none⟩) pls.length pc) hv hs (pls2.set i { ({ p with sp:=sp',rs:=rs' }:PlD) with sq:=sp',rq:=rs' })/\Kept (Own own2 W (2*i+2)) W w'):=fun own2 W pls2 hh hpp=>refCall (p:={ p with sp:=sp',rs:=rs' }) hh hpp (by simp only;rw [hev1,hev2];exact href)
 have hp2:(pls.set i { p with sp:=sp',rs:=rs' })[i]?=some { p with sp:=sp',rs:=rs' }:=by rw [List.getElem?_set,if_pos rfl,if_pos hil]
 obtain ⟨hfs,hfk,hft⟩:=hf
 simp only at hfs
 clear hcode href hev1 hev2 hev3 hheft hfk hft
 have b3:W1.cell? ⟨w.heap.size,3,none⟩=some (.string s):=cell_of_row _ _ 3 _ _ _ HBox1.out
 have hszB:w.heap.size < W1.heap.size:=by rw [HS1.out];omega
 go_upto_region 10 with fail
 go_wp2_with fail
 refine (lent_any s _ (by omega)).mono ?_
 rintro e V0 ⟨gb,rfl,hg1,hr1,hb1⟩
 have hsV0:=hb1.size
 have HP2:Hid (PInv (growO (growO own1 W1 0) V0 0) V0.drew bw (.slice (some ⟨pg,po,none⟩) pls.length pc) hv hs pls):=(HP1.out.below hb1).below (Below.refl _ V0).drew
 have hlag:Hid (∀ k,k < W1.heap.size->growO (growO own1 W1 0) V0 0 k=own1 k):=fun k hk=>(growO_old (by omega)).trans (growO_old hk)
 have hgbl:gb < V0.heap.size:=(hr1.blk_lt (k:=gb) rfl).1
 have hgbo:Hid (growO (growO own1 W1 0) V0 0 gb=0):=(growO_old hgbl).trans (growO_new hg1)
 have HKa:Hid (Kept (fun k=>own k ≠ 99) w V0.drew):=(HK1.out.step (Kept.ofBelow hb1 (fun _=>False)) (fun _ _ hh=>hh.elim)).drew
 have HRow:Hid (Row V0.drew 5 1 (.slice (some ⟨gb,0,none⟩) (s.size+8) (s.size+8)) ((lentBytes s).map byteV)):=hr1.below (Below.refl _ V0).drew (fun k hk=>(hr1.blk_lt hk).1)
 have HRowF:Hid (Row V0.drew 5 1 (.slice (some ⟨gb,0,none⟩) s.size (s.size+8)) (s.data.toList.map byteV)):=by
  have:=row_front HRow.out s.size (by omega)
  rw [Nat.mul_one,<- List.map_take,lent_take] at this
  exact this
 have HBoxV:Hid (V0.heap[w.heap.size]?=W1.heap[w.heap.size]?):=hb1.block _ hszB
 clear hr1 b0 b3
 have v2:V0.cell? ⟨w.heap.size,2,none⟩=some (.int .i64 source):=cell_of_row _ _ 2 _ _ _ (HBoxV.out.trans HBox1.out)
 have v3:V0.cell? ⟨w.heap.size,3,none⟩=some (.string s):=cell_of_row _ _ 3 _ _ _ (HBoxV.out.trans HBox1.out)
 have hplA:=(HP1.out.below hb1).pl i p hp
 have p0:V0.cell? ⟨p.pb,0,none⟩=some (.pointer (some ⟨p.f,0,none⟩)):=cell_of_row _ _ 0 _ _ _ hplA.blk
 have p1:V0.cell? ⟨p.pb,1,none⟩=some (.pointer (some ⟨p.r,0,none⟩)):=cell_of_row _ _ 1 _ _ _ hplA.blk
 have hpbl:p.pb < V0.heap.size:=(Array.getElem?_eq_some_iff.1 hplA.blk).1
 have hpbo:Hid (growO (growO own1 W1 0) V0 0 p.pb=0):=(growO_old hpbl).trans hplA.mine
 have HOB2:Hid (growO (growO own1 W1 0) V0 0 w.heap.size=0):=(hlag.out _ hszB).trans HOB.out
 have HO2:Hid (∀ k,k < w.heap.size->growO (growO own1 W1 0) V0 0 k=own k):=fun k hk=>(hlag.out k (by omega)).trans (HO1.out k hk)
 have hwV:w.heap.size < V0.heap.size:=by omega
 have hsD:V0.drew.heap.size=V0.heap.size:=rfl
 have hgw:w.heap.size<=gb:=by omega
 clear hplA HP1 hb1 hlag HOB HO1 HK1 HS1 HBoxV HBox1 hg1 hszB hsV0
 generalize growO (growO own1 W1 0) V0 0=own2 at *
 have HC:Hid (Calls Tryz.prog 20 #[.pointer (some ⟨p.f,0,none⟩),.int .i64 source,.slice (some ⟨gb,0,none⟩) s.size (s.size+8)] V0.drew fun e w'=>e=.returned (.int .i64 x)/\PInv (growO own2 V0.drew (2*i+1)) w' bw (.slice (some ⟨pg,po,none⟩) pls.length pc) hv hs (pls.set i { p with sp:=sp',rs:=rs' })/\Kept (Own own2 V0.drew (2*i+1)) V0.drew w'):=by
  refine (Hcode.out V0.drew _ _ (HP2.out.pl i p hp).code HRowF.out).mono ?_
  rintro e w' ⟨rfl,h1,h2⟩
  exact ⟨rfl,HP2.out.code hp h2 h1,h2⟩
 clear Hcode HRowF
 have hsl0:(0:Int)<=(s.size:Int):=by omega
 have hsl1:(s.size:Int)<=((s.size+8:Nat):Int):=by omega
 have hsl2:(s.size:Int)<=(s.size:Int)+8:=by omega
 have hsl3:s.size<=s.size+8:=by omega
 go_upto_region 11 with fail
 go_region_held3 (fun W=>W.cell? ⟨p.pb,0,none⟩=some (.pointer (some ⟨p.f,0,none⟩))/\W.cell? ⟨p.pb,1,none⟩=some (.pointer (some ⟨p.r,0,none⟩))/\W.cell? ⟨w.heap.size,2,none⟩=some (.int .i64 source)/\W.cell? ⟨w.heap.size,3,none⟩=some (.string s)) (go_keep) (first
  | (go_at_call 20;refine HC.out.mono ?_;rintro e V1 ⟨rfl,hq1,hk1⟩;have HQ1:Hid (PInv (growO own2 V0.drew (2*i+1)) V1 bw (.slice (some ⟨pg,po,none⟩) pls.length pc) hv hs (pls.set i { p with sp:=sp',rs:=rs' })):=hq1;have HKq:Hid (Kept (Own own2 V0.drew (2*i+1)) V0.drew V1):=hk1;have bp:V1.heap[p.pb]?=V0.heap[p.pb]?:=hk1.block p.pb hpbl (fun hh=>by have e1:=hh.1;have e2:=hpbo.out;omega);have bb:V1.heap[w.heap.size]?=V0.heap[w.heap.size]?:=hk1.block w.heap.size hwV (fun hh=>by have e1:=hh.1;have e2:=HOB2.out;omega);have k0:V1.cell? ⟨p.pb,0,none⟩=some (.pointer (some ⟨p.f,0,none⟩)):=(by rw [<- p0];simp only [World.cell?,bp]);have k1:V1.cell? ⟨p.pb,1,none⟩=some (.pointer (some ⟨p.r,0,none⟩)):=(by rw [<- p1];simp only [World.cell?,bp]);have k2:V1.cell? ⟨w.heap.size,2,none⟩=some (.int .i64 source):=(by rw [<- v2];simp only [World.cell?,bb]);have k3:V1.cell? ⟨w.heap.size,3,none⟩=some (.string s):=(by rw [<- v3];simp only [World.cell?,bb]);clear hq1 hk1))
 have hV01:V0.heap.size<=V1.heap.size:=HKq.out.size
 have HRow1:Hid (Row V1.drew 5 1 (.slice (some ⟨gb,0,none⟩) (s.size+8) (s.size+8)) ((lentBytes s).map byteV)):=by
  have h1:=HRow.out.kept HKq.out (fun k hk hh=>by
   have e1:=hh.1
   have e2:k=gb:=by simpa [Value.ownBlock] using hk.symm
   rw [e2,hgbo.out] at e1;omega)
  exact h1.below (Below.refl _ V1).drew (fun k hk=>(h1.blk_lt hk).1)
 have HP3:Hid (PInv (growO (growO own2 V0.drew (2*i+1)) V1 0) V1.drew bw (.slice (some ⟨pg,po,none⟩) pls.length pc) hv hs (pls.set i { p with sp:=sp',rs:=rs' })):=HQ1.out.below (Below.refl _ V1).drew
 have HO3:Hid (∀ k,k < V0.heap.size->growO (growO own2 V0.drew (2*i+1)) V1 0 k=own2 k):=fun k hk=>(growO_old (by omega)).trans (growO_old hk)
 have HKb:Hid (Kept (fun k=>own k ≠ 99) w V1.drew):=(HKa.out.step HKq.out (fun k hk hh=>by have e1:=hh.1;rw [HO2.out k hk] at e1;omega)).drew
 clear HQ1 HKq HRow HC p0 p1 v2 v3 HP2 HKa
 generalize growO (growO own2 V0.drew (2*i+1)) V1 0=own3 at *
 have hsD1:V1.drew.heap.size=V1.heap.size:=rfl
 have hpbo3:Hid (own3 p.pb=0):=(HO3.out _ hpbl).trans hpbo.out
 have hbo3:Hid (own3 w.heap.size=0):=(HO3.out _ hwV).trans HOB2.out
 have hgbo3:Hid (own3 gb=0):=(HO3.out _ hgbl).trans hgbo.out
 have HO4:Hid (∀ k,k < w.heap.size->own3 k=own k):=fun k hk=>(HO3.out k (by omega)).trans (HO2.out k hk)
 have HC2:=HRf.out _ _ _ HP3.out hp2
 have HC3:Hid (Calls Tryz.prog 57 #[.pointer (some ⟨p.r,0,none⟩),.int .i64 source,.string s] V1.drew fun e w'=>e=.returned (.int .i64 x)/\PInv (growO own3 V1.drew (2*i+2)) w' bw (.slice (some ⟨pg,po,none⟩) pls.length pc) hv hs ((pls.set i { p with sp:=sp',rs:=rs' }).set i { ({ p with sp:=sp',rs:=rs' }:PlD) with sq:=sp',rq:=rs' })/\Kept (Own own3 V1.drew (2*i+2)) V1.drew w'):=HC2
 clear HC2 HRf hgbo hpbo HOB2 HO2 HO3
 go_upto_region 12 with fail
 go_region_held3 (fun W=>W.cell? ⟨p.pb,0,none⟩=some (.pointer (some ⟨p.f,0,none⟩))/\W.cell? ⟨p.pb,1,none⟩=some (.pointer (some ⟨p.r,0,none⟩))/\W.cell? ⟨w.heap.size,2,none⟩=some (.int .i64 source)/\W.cell? ⟨w.heap.size,3,none⟩=some (.string s)) (go_keep) (first
  | (go_at_call 57;refine HC3.out.mono ?_;rintro e V2 ⟨rfl,hq1,hk1⟩;have HQ1:Hid (PInv (growO own3 V1.drew (2*i+2)) V2 bw (.slice (some ⟨pg,po,none⟩) pls.length pc) hv hs ((pls.set i { p with sp:=sp',rs:=rs' }).set i { ({ p with sp:=sp',rs:=rs' }:PlD) with sq:=sp',rq:=rs' })):=hq1;have HKq:Hid (Kept (Own own3 V1.drew (2*i+2)) V1.drew V2):=hk1;have bp2:V2.heap[p.pb]?=V1.heap[p.pb]?:=hk1.block p.pb (by omega) (fun hh=>by have e1:=hh.1;have e2:=hpbo3.out;omega);have bb2:V2.heap[w.heap.size]?=V1.heap[w.heap.size]?:=hk1.block w.heap.size (by omega) (fun hh=>by have e1:=hh.1;have e2:=hbo3.out;omega);have l0:V2.cell? ⟨p.pb,0,none⟩=some (.pointer (some ⟨p.f,0,none⟩)):=(by rw [<- k0];simp only [World.cell?,bp2]);have l1:V2.cell? ⟨p.pb,1,none⟩=some (.pointer (some ⟨p.r,0,none⟩)):=(by rw [<- k1];simp only [World.cell?,bp2]);have l2:V2.cell? ⟨w.heap.size,2,none⟩=some (.int .i64 source):=(by rw [<- k2];simp only [World.cell?,bb2]);have l3:V2.cell? ⟨w.heap.size,3,none⟩=some (.string s):=(by rw [<- k3];simp only [World.cell?,bb2]);clear hq1 hk1))
 have hV12:V1.heap.size<=V2.heap.size:=HKq.out.size
 have HRow2:Hid (Row V2 5 1 (.slice (some ⟨gb,0,none⟩) (s.size+8) (s.size+8)) ((lentBytes s).map byteV)):=HRow1.out.kept HKq.out (fun k hk hh=>by
  have e1:=hh.1
  have e2:k=gb:=by simpa [Value.ownBlock] using hk.symm
  rw [e2,hgbo3.out] at e1;omega)
 have HO5:Hid (∀ k,k < V1.heap.size->growO own3 V1.drew (2*i+2) k=own3 k):=fun k hk=>growO_old hk
 have HKc:Hid (Kept (fun k=>own k ≠ 99) w V2):=HKb.out.step HKq.out (fun k hk hh=>by have e1:=hh.1;rw [HO4.out k hk] at e1;omega)
 clear HKq HRow1 HC3 HP3 HKb k0 k1 k2 k3 l0 l1 l2 bp bb bp2 bb2
 generalize growO own3 V1.drew (2*i+2)=own4 at *
 have HO6:Hid (∀ k,k < w.heap.size->own4 k=own k):=fun k hk=>(HO5.out k (by omega)).trans (HO4.out k hk)
 have hgbo4:Hid (own4 gb=0):=(HO5.out _ (by omega)).trans hgbo3.out
 go_wp2_with fail
 refine (still_lent gb (s.size+8) s V2 (by omega) (HRow2.out.bytes.1)).mono ?_
 rintro e V3 ⟨rfl,m3,rfl⟩
 have HP4:Hid (PInv (growO own4 V2 0) (V2.drewN m3) bw (.slice (some ⟨pg,po,none⟩) pls.length pc) hv hs ((pls.set i { p with sp:=sp',rs:=rs' }).set i { ({ p with sp:=sp',rs:=rs' }:PlD) with sq:=sp',rq:=rs' })):=HQ1.out.below (below_drewN (Below.refl _ V2) m3)
 have HRow3:Hid (Row (V2.drewN m3) 5 1 (.slice (some ⟨gb,0,none⟩) (s.size+8) (s.size+8)) ((lentBytes s).map byteV)):=HRow2.out.below (below_drewN (Below.refl _ V2) m3) (fun k hk=>(HRow2.out.blk_lt hk).1)
 have HKd:Hid (Kept (fun k=>own k ≠ 99) w (V2.drewN m3)):=HKc.out.drewN m3
 have Hs3:Hid ((V2.drewN m3).heap.size=V2.heap.size):=by show _=_;simp
 have HO7:Hid (∀ k,k < V2.heap.size->growO own4 V2 0 k=own4 k):=fun k hk=>growO_old hk
 clear HQ1 HRow2 HKc l3
 generalize growO own4 V2 0=own5 at *
 generalize V2.drewN m3=V3 at *
 have hgbV:gb < V3.heap.size:=by rw [Hs3.out];omega
 have hwV3:w.heap.size<=V3.heap.size:=by rw [Hs3.out];omega
 have HP5:Hid (PInv (growO own5 V3 0) (V3.alloc (.cells #[.slice (some ⟨gb,0,none⟩) (s.size+8) (s.size+8),.slice none 0 0,.slice none 0 0,.int .i64 0] 135)) bw (.slice (some ⟨pg,po,none⟩) pls.length pc) hv hs ((pls.set i { p with sp:=sp',rs:=rs' }).set i { ({ p with sp:=sp',rs:=rs' }:PlD) with sq:=sp',rq:=rs' })):=HP4.out.below ((Below.refl _ V3).alloc (Nat.le_refl _) _)
 have hgo5:Hid (growO own5 V3 0 gb=0):=(growO_old hgbV).trans ((HO7.out _ (by omega)).trans hgbo4.out)
 have HKp:Hid (Calls Tryz.prog 59 #[.pointer (some ⟨bw,0,none⟩),.pointer (some ⟨V3.heap.size,0,none⟩)] (V3.alloc (.cells #[.slice (some ⟨gb,0,none⟩) (s.size+8) (s.size+8),.slice none 0 0,.slice none 0 0,.int .i64 0] 135)) fun e w'=>(∃ v,e=.returned v) /\
  ∃ hs' hv',hs'.length=4/\PInv (growO (growO own5 V3 0) (V3.alloc (.cells #[.slice (some ⟨gb,0,none⟩) (s.size+8) (s.size+8),.slice none 0 0,.slice none 0 0,.int .i64 0] 135)) 0) w' bw (.slice (some ⟨pg,po,none⟩) pls.length pc) hv' (hs++hs') ((pls.set i { p with sp:=sp',rs:=rs' }).set i { ({ p with sp:=sp',rs:=rs' }:PlD) with sq:=sp',rq:=rs' })/\Kept (fun k=>growO own5 V3 0 k=0) (V3.alloc (.cells #[.slice (some ⟨gb,0,none⟩) (s.size+8) (s.size+8),.slice none 0 0,.slice none 0 0,.int .i64 0] 135)) w'):=
  keep_pl (growO own5 V3 0) (V3.alloc (.cells #[.slice (some ⟨gb,0,none⟩) (s.size+8) (s.size+8),.slice none 0 0,.slice none 0 0,.int .i64 0] 135)) bw V3.heap.size w.heap.size (.slice (some ⟨pg,po,none⟩) pls.length pc) hv (.slice (some ⟨gb,0,none⟩) (s.size+8) (s.size+8)) hs _ ((lentBytes s).map byteV) HP5.out (heap_alloc_new V3 _) (HRow3.out.alloc _) HBnd.out (by omega) (fun k hk=>by simp [Value.ownBlock] at hk;omega) (growO_new (Nat.le_refl _)) (fun k hk=>(by have e2:k=gb:=(by simpa [Value.ownBlock] using hk.symm);rw [e2];exact hgo5.out)) hl (by rw [List.length_map,lent_len];omega)
 clear HP5 HP4 HRow3
 go_wp2_with fail
 refine HKp.out.mono ?_
 rintro e V4 ⟨⟨v,rfl⟩,hs',hv',h4,hQ5,hk5⟩
 have HQ5:=hQ5
 have HKe:Kept (fun k=>own k ≠ 99) w V4:=(HKd.out.alloc _).step hk5 (fun k hk hh=>by
  have e1:growO own5 V3 0 k=own k:=(growO_old (by omega)).trans ((HO7.out k (by omega)).trans (HO6.out k hk))
  rw [e1] at hh;omega)
 have HQ6:Hid (PInv (growO (growO own5 V3 0) (V3.alloc (.cells #[.slice (some ⟨gb,0,none⟩) (s.size+8) (s.size+8),.slice none 0 0,.slice none 0 0,.int .i64 0] 135)) 0) V4 bw (.slice (some ⟨pg,po,none⟩) pls.length pc) hv' (hs++hs') ((pls.set i { p with sp:=sp',rs:=rs' }).set i { ({ p with sp:=sp',rs:=rs' }:PlD) with sq:=sp',rq:=rs' })):=HQ5
 have HKf:Hid (Kept (fun k=>own k ≠ 99) w V4):=HKe
 clear hQ5 HQ5 hk5 HKe
 go_wp2_with fail
 go_ret
 refine ⟨by simp,_,_,_,_,_,(Good.two HG.out (by omega) hp HHeft.out HQ6.out),fun k hk=>(growO_old (by simp;omega)).trans ((growO_old (by omega)).trans ((HO7.out k (by omega)).trans (HO6.out k hk))),HKf.out,by (rw [List.length_append,toldS_two hp];omega;rfl)⟩
end Go.Proofs.YtcfngdnmpogaoaaGreat
