import Derived.Test.YtcfngdnmpogaoaaGreatTkU29
import Derived.Test.YtcfngdnmpogaoaaGreatTkT06
import Derived.Test.YtcfngdnmpogaoaaGreatTkU27
namespace Go.Proofs.YtcfngdnmpogaoaaGreat
open Go.RowKit
set_option maxHeartbeats 3200000
set_option maxRecDepth 20000
theorem unframe_n (b off cap n:Nat) (l:List UInt8) (w:World) (hn:n=l.length) (hc:Bytes w b off l) (hl:l.length<=9223372036854775807) (hcap:l.length<=cap) :
 Calls Tryz.prog 16 #[.slice (some ⟨b,off,none⟩) n cap] w fun e w'=>e=.returned (.tuple #[unfV l,.int .i64 (unfN l),.int .i64 (unfE l)])/\Below w.heap.size w w':=by
 subst hn;exact unframe_any b off cap l w hc hl hcap
theorem lent_take (s:ByteArray):(lentBytes s).take s.size=s.data.toList:=by
 rw [lentBytes,List.take_append_of_le_length (by rw [keyLen];exact Nat.le_refl _),List.take_of_length_le (by rw [keyLen];exact Nat.le_refl _)]
theorem lent_len (s:ByteArray):(lentBytes s).length=s.size+8:=by rw [lentBytes,List.length_append,keyLen];simp
theorem lent_get1 (s:ByteArray) (j:Nat) (h:j < s.size) (h':j < (lentBytes s).length):(lentBytes s)[j]=s[j]:=by
 simp only [lentBytes]
 rw [List.getElem_append_left (by rw [keyLen];exact h)];rfl
theorem lent_get2 (s:ByteArray) (j:Nat) (h:s.size<=j) (h':j < (lentBytes s).length):(lentBytes s)[j]=201:=by
 simp only [lentBytes]
 rw [List.getElem_append_right (by rw [keyLen];exact h),List.getElem_replicate]
theorem still_lent (g cap:Nat) (s:ByteArray) (w:World) (hs:s.size+8<=140737488355328) (h:Bytes w g 0 (lentBytes s)) :
 Calls Tryz.prog 58 #[.slice (some ⟨g,0,none⟩) (s.size+8) cap,.string s] w fun e w'=>e=.returned (.bool true)/\∃ m,w'=w.drewN m:=by
 refine still_any g 0 cap s (s.size+8) w (by omega) (by omega) (fun j hj=>?_) (fun j hj hj2=>?_)
 . rw [h j (by rw [lent_len];omega),lent_get1 s j hj]
 . rw [h j (by rw [lent_len];omega),lent_get2 s j hj];rfl
theorem item_cells {W:World} {x0 x1 x2 x3 x4:Value} {t:TypeId} {g:Nat} (h:W.heap[g]?=some (.cells #[x0,x1,x2,x3,x4] t (0,0))) :
 W.cell? ⟨g,0,none⟩=some x0/\W.cell? ⟨g,1,none⟩=some x1/\W.cell? ⟨g,2,none⟩=some x2/\W.cell? ⟨g,3,none⟩=some x3/\W.cell? ⟨g,4,none⟩=some x4:=by
 refine ⟨?_,?_,?_,?_,?_⟩ <;> (rw [cell_of_row W _ _ _ _ _ h];rfl)
theorem free_unframe (bw:Nat) (ps hv:Value) (hs:List HoldD) (o:OpD) (w:World) (h:WInv w bw ps hv hs) (hf:o.Fits) (hk:o.kind=2) (hl:hs.length+4<=17592186044416) :
 Calls Tryz.prog 53 #[.pointer (some ⟨bw,0,none⟩),.agg o.cells] w (StepPost bw ps hv hs w):=by
 have H:=hid h
 have HB:Hid (∀ W,Below (w.heap.size+1) (w.alloc (.cells o.cells 79)) W->∀ j,W.cell? ⟨w.heap.size,j,none⟩=o.cells[j]?):=fun W hW j=>op_box hW (by omega) j
 clear h
 obtain ⟨kind,n,source,s,ik,ikey,itime,ivalue,itag,q0,q1,q2,q3⟩:=o
 obtain ⟨hfs,hfk,hft⟩:=hf
 simp only [OpD.cells] at *
 subst hk
 go_enter Tryz.func53,Tryz.ntmps53
 go_wp2_with fail
 refine (lent_any s _ (by omega)).mono ?_
 rintro e W1 ⟨g,rfl,hg1,hr1,hb1⟩
 simp only [World.size_alloc] at hg1 hb1
 have p3:=HB.out W1 hb1 3
 simp only [List.getElem?_toArray,List.getElem?_cons_zero,List.getElem?_cons_succ] at p3
 go_wp2_with fail
 have hby:=hr1.bytes.1
 have hby1:Bytes W1 g 0 s.data.toList:=by have:=hby.take s.size;rw [lent_take] at this;exact this
 refine (unframe_n g 0 (s.size+8) s.size s.data.toList W1 (keyLen s).symm hby1 (by rw [keyLen];omega) (by rw [keyLen];omega)).mono ?_
 rintro e W2 ⟨rfl,hb2⟩
 obtain ⟨x1,x2,x3,x4,x5,hV⟩:=unfV_cells s.data.toList
 have HV:=hid hV
 rw [hV]
 clear hV
 obtain ⟨UN,HN⟩:∃ U,Hid (unfN s.data.toList=U):=⟨_,rfl⟩
 obtain ⟨UE,HE⟩:∃ U,Hid (unfE s.data.toList=U):=⟨_,rfl⟩
 rw [HN.out,HE.out]
 have hs1:=hb1.size
 have hs2:=hb2.size
 have hs0:(w.alloc (.cells #[.int .i64 2,.int .i64 n,.int .i64 source,.string s,.int .i64 ik,.string ikey,.int .i64 itime,.int .i64 ivalue,.int .u32 (itag:Int),.int .i64 q0,.int .i64 q1,.int .i64 q2,.int .i64 q3] 79)).heap.size=w.heap.size+1:=by simp
 rw [hs0] at hs1
 have hgW1:=(hr1.blk_lt (k:=g) rfl).1
 have hb12:=hb1.trans (hb2.mono (by omega))
 have hr2:=hr1.below hb2 (fun k hk=>(hr1.blk_lt hk).1)
 have p3':∀ o:Obj,(W2.alloc o).cell? ⟨w.heap.size,3,none⟩=some (.string s):=fun o=>by
  have:=HB.out (W2.alloc o) (hb12.alloc (by omega) o) 3
  simpa using this
 clear p3 hby hby1
 go_wp2_with fail
 refine (runframe_any s _ (by omega)).mono ?_
 rintro e W3 ⟨rfl,hb3⟩
 rw [HV.out,HN.out,HE.out]
 have hs3:=hb3.size
 simp only [World.size_alloc] at hs3
 have hb13:=(hb12.alloc (by omega) _).trans (hb3.mono (by simp;omega))
 have hbx:=(hb3.block W2.heap.size (by simp)).trans (heap_alloc_new W2 _)
 have hr3:=(hr2.alloc _).below hb3 (fun k hk=>((hr2.alloc _).blk_lt hk).1)
 have p3'':∀ o:Obj,(W3.alloc o).cell? ⟨w.heap.size,3,none⟩=some (.string s):=fun o=>by
  have:=HB.out (W3.alloc o) (hb13.alloc (by omega) o) 3
  simpa using this
 clear p3' hb3 hb12 hb2
 go_wp2_with fail
 refine (still_lent g (s.size+8) s _ (by omega) ((hr3.alloc _).bytes.1)).mono ?_
 rintro e W4 ⟨rfl,m4,rfl⟩
 have hk4:Kept (fun _=>False) W3 ((W3.alloc (.cells #[.int .i64 x1,.string x2,.int .i64 x3,.int .i64 x4,.int .u32 x5] 28)).drewN m4):=((Kept.refl _ W3).alloc _).drewN m4
 have hby4:((W3.alloc (.cells #[.int .i64 x1,.string x2,.int .i64 x3,.int .i64 x4,.int .u32 x5] 28)).drewN m4).heap[W3.heap.size]?=some (.cells #[.int .i64 x1,.string x2,.int .i64 x3,.int .i64 x4,.int .u32 x5] 28 (0,0)):=by
  rw [(below_drewN (Below.refl (W3.heap.size+1) (W3.alloc (.cells #[.int .i64 x1,.string x2,.int .i64 x3,.int .i64 x4,.int .u32 x5] 28))) m4).block _ (by omega)]
  exact heap_alloc_new W3 _
 have hsz4:((W3.alloc (.cells #[.int .i64 x1,.string x2,.int .i64 x3,.int .i64 x4,.int .u32 x5] 28)).drewN m4).heap.size=W3.heap.size+1:=by simp
 generalize (W3.alloc (.cells #[.int .i64 x1,.string x2,.int .i64 x3,.int .i64 x4,.int .u32 x5] 28)).drewN m4=W4 at *
 have hbx4:=(hk4.block W2.heap.size (by omega) id).trans hbx
 have hr4:=hr3.kept hk4 (fun _ _=>id)
 have hbw3:Below w.heap.size w W3:=((Below.refl _ w).alloc (Nat.le_refl _) _).trans (hb13.mono (by omega))
 have hbw4:Below w.heap.size w W4:=hbw3.trans (hk4.toBelow (by omega) (fun _ _=>id))
 have Hsz4:=hid hsz4
 clear p3'' hb13 hbx hr3 hr2 hbw3 hb1 HB hsz4
 have hsz4a:W3.heap.size < W4.heap.size:=by rw [Hsz4.out];omega
 go_wp2_with fail
 refine (keep_step bw W4.heap.size ps hv (.slice (some ⟨g,0,none⟩) (s.size+8) (s.size+8)) hs ((lentBytes s).map byteV) w _ H.out (hbw4.alloc (by omega) _) (heap_alloc_new W4 _) (hr4.alloc _) (by omega) (by intro k hk;simp [Value.ownBlock] at hk;omega) hl (by rw [List.length_map,lent_len];omega)).mono ?_
 rintro e W5 ⟨⟨v,rfl⟩,hs',hv',h4,hW5,hk5,hk5',hq5⟩
 have hinv4:=(H.out.below hbw4)
 have hx5:W5.heap[W2.heap.size]?=some (.cells #[.int .i64 x1,.string x2,.int .i64 x3,.int .i64 x4,.int .u32 x5] 28 (0,0)):=by
  rw [hk5'.block W2.heap.size (by simp;omega) ?_,Below.heap_alloc _ _ _ (by omega)]
  . exact hbx4
  . rintro (e | e | e | e)
    . have:=hinv4.blk;rw [<- e,hbx4] at this;simp at this
    . exact hinv4.row.ne_block hbx4 (by decide) e
    . omega
    . exact hr4.ne_block hbx4 (by decide) e
 have hy5:W5.heap[W3.heap.size]?=some (.cells #[.int .i64 x1,.string x2,.int .i64 x3,.int .i64 x4,.int .u32 x5] 28 (0,0)):=by
  rw [hk5'.block W3.heap.size (by simp;omega) ?_,Below.heap_alloc _ _ _ (by omega)]
  . exact hby4
  . rintro (e | e | e | e)
    . have:=hinv4.blk;rw [<- e,hby4] at this;simp at this
    . exact hinv4.row.ne_block hby4 (by decide) e
    . omega
    . exact hr4.ne_block hby4 (by decide) e
 obtain ⟨a0,a1,a2,a3,a4⟩:=item_cells hx5
 obtain ⟨b0,b1,b2,b3,b4⟩:=item_cells hy5
 clear hx5 hy5 hk5' hinv4 hby4 hbx4 hr4
 go_wp2
 go_ret
 exact ⟨rfl,hs',hv',h4,hW5,hk5,hq5⟩
end Go.Proofs.YtcfngdnmpogaoaaGreat
namespace Go.Proofs.YtcfngdnmpogaoaaGreat
open Go.RowKit
set_option maxHeartbeats 1600000
set_option maxRecDepth 20000
theorem free_any (bw:Nat) (ps hv:Value) (hs:List HoldD) (o:OpD) (w:World) (h:WInv w bw ps hv hs) (hf:o.Fits) (hk:o.kind=1\/o.kind=2) (hl:hs.length+4<=17592186044416) :
 Calls Tryz.prog 53 #[.pointer (some ⟨bw,0,none⟩),.agg o.cells] w (StepPost bw ps hv hs w):=by
 rcases hk with hk | hk
 . cases hi:isItemB o.ik o.ikey o.ivalue o.itag with
   | false=>exact free_frame_no bw ps hv hs o w h hf hk hl hi
   | true=>exact free_frame_yes bw ps hv hs o w h hf hk hl hi
 . exact free_unframe bw ps hv hs o w h hf hk hl
theorem step_any (bw:Nat) (ps hv:Value) (hs:List HoldD) (o:OpD) (w:World) (h:WInv w bw ps hv hs) (hf:o.Fits) (hk:o.kind=1\/o.kind=2) (hl:hs.length+4<=17592186044416) :
 Calls Tryz.prog 32 #[.pointer (some ⟨bw,0,none⟩),.agg o.cells] w (StepPost bw ps hv hs w):=by
 have H:=hid h
 have hk1:(1:Int)<=o.kind:=by omega
 have hk3:o.kind<=3:=by omega
 have HF:Hid (∀ W,WInv W bw ps hv hs->Calls Tryz.prog 53 #[.pointer (some ⟨bw,0,none⟩),.agg o.cells] W (StepPost bw ps hv hs W)):=fun W hW=>free_any bw ps hv hs o W hW hf hk hl
 clear h hf hk
 obtain ⟨kind,n,source,s,ik,ikey,itime,ivalue,itag,q0,q1,q2,q3⟩:=o
 simp only [OpD.cells] at *
 go_enter Tryz.func32,Tryz.ntmps32
 go_wp2_with fail
 refine (HF.out _ (H.out.below ((Below.refl _ w).alloc (Nat.le_refl _) _))).mono ?_
 rintro e W ⟨rfl,hs',hv',h4,hW,hkW,hq⟩
 go_wp2
 go_ret
 refine ⟨rfl,hs',hv',h4,hW,((Kept.refl _ w).alloc _).step hkW (fun i _ e=>e),fun k hk=>(hq.1 k hk).imp id (fun h=>by simp at h;omega),fun d hd=>?_⟩
 obtain ⟨x1,x2,x3,x4⟩:=hq.2 d hd
 simp only [World.size_alloc] at x1 x2 x3 x4
 exact ⟨by omega,fun k hk=>by have:=x2 k hk;omega,fun k hk=>by have:=x3 k hk;omega,fun k hk=>by have:=x4 k hk;omega⟩
def Script (w:World) (b off:Nat) (ops:List OpD):Prop:=∀ i (h:i < ops.length) j,j < 13->w.cell? ⟨b,off+(i*13+j),none⟩=(ops[i]).cells[j]?
theorem Script.kept {X:Nat->Prop} {w W:World} {b off:Nat} {ops:List OpD} (h:Script w b off ops) (hk:Kept X w W) (hb:b < w.heap.size) (hx:¬ X b):Script W b off ops:=fun i hi j hj=>by
 have:=World.cell?_of_block (w:=w) (w':=W) (a:=⟨b,off+(i*13+j),none⟩) (hk.block b hb hx)
 rw [this];exact h i hi j hj
end Go.Proofs.YtcfngdnmpogaoaaGreat
namespace Go.Proofs.YtcfngdnmpogaoaaGreat
open Go.RowKit
def Own (own:Nat->Nat) (w:World) (a k:Nat):Prop:=own k=a/\k < w.heap.size
def growO (own:Nat->Nat) (w:World) (a k:Nat):Nat:=if k < w.heap.size then own k else a
theorem growO_old {own:Nat->Nat} {w:World} {a k:Nat} (h:k < w.heap.size):growO own w a k=own k:=if_pos h
theorem growO_new {own:Nat->Nat} {w:World} {a k:Nat} (h:w.heap.size<=k):growO own w a k=a:=if_neg (by omega)
theorem FlowOn.lt {w:World} {g:Nat} {c:Cf} {sp:Sp} {rs:List (List UInt8)} {F:Nat->Prop} {T:Option Int} (h:FlowOn w g c sp rs F T):FlowOn w g c sp rs (fun k=>F k/\k < w.heap.size) T:=by
 obtain ⟨us,⟨st,⟨r,gs,es,h3,a1,a2,a3,h5⟩,h6⟩,h2⟩:=h
 exact ⟨us,⟨st,⟨r,gs,es,h3,a1,a2,a3,fun k hk=>⟨h5 k hk,h3.lt hk⟩⟩,h6⟩,h2.ul,h2.rl,fun i v l hu hr=>⟨(h2.row i v l hu hr).1,fun k hk=>⟨(h2.row i v l hu hr).2.1 k hk,((h2.row i v l hu hr).1.blk_lt hk).1⟩,(h2.row i v l hu hr).2.2⟩⟩
theorem FlowOn.grow {own:Nat->Nat} {w w':World} {a g:Nat} {c:Cf} {sp:Sp} {rs:List (List UInt8)} {T:Option Int} (h:FlowOn w' g c sp rs (Grown (Own own w a) w) T):FlowOn w' g c sp rs (Own (growO own w a) w' a) T:=
 h.lt.mono (fun k hk=>by
  obtain ⟨hk,hl⟩:=hk
  rcases hk with hk | hk
  . exact ⟨(growO_old hk.2).trans hk.1,hl⟩
  . exact ⟨growO_new hk,hl⟩)
theorem FlowOn.other {own own':Nat->Nat} {w w':World} {a g:Nat} {c:Cf} {sp:Sp} {rs:List (List UInt8)} {T:Option Int} {X:Nat->Prop} (h:FlowOn w g c sp rs (Own own w a) T) (hk:Kept X w w') (hX:∀ k,k < w.heap.size->X k->own k ≠ a) (ho:∀ k,k < w.heap.size->own' k=own k):FlowOn w' g c sp rs (Own own' w' a) T:=
 (h.kept hk (fun k hk hx=>hX k hk.2 hx hk.1)).mono (fun k hk'=>⟨(ho k hk'.2).trans hk'.1,Nat.lt_of_lt_of_le hk'.2 hk.size⟩)
theorem RefOn.lt {w:World} {g:Nat} {r:RCells} {E:List Ev} {ds:List WinX} {G:Nat->Prop} (h:RefOn w g r E ds G):RefOn w g r E ds (fun k=>G k/\k < w.heap.size):=
 ⟨h.rev,h.done,⟨h.me,h.rev.rf.lt⟩,fun k hk=>⟨h.ev k hk,(h.rev.ev.blk_lt hk).1⟩,fun k hk=>⟨h.dn k hk,(h.done.row.blk_lt hk).1⟩,fun x hx k hk=>⟨h.tg x hx k hk,((h.done.tags x hx).1.blk_lt hk).1⟩⟩
theorem Ref.grow {T:Option Int × Nat} {own:Nat->Nat} {w w':World} {a g:Nat} {c:Cf} {sp:Sp} {rs:List (List UInt8)} (h:Ref T w' g c sp rs (Grown (Own own w a) w)):Ref T w' g c sp rs (Own (growO own w a) w' a):=by
 obtain ⟨r,ds,h1,h2⟩:=h
 refine ⟨r,ds,h1.lt.mono (fun k hk=>?_),h2⟩
 obtain ⟨hk,hl⟩:=hk
 rcases hk with hk | hk
 . exact ⟨(growO_old hk.2).trans hk.1,hl⟩
 . exact ⟨growO_new hk,hl⟩
theorem Ref.other {T:Option Int × Nat} {own own':Nat->Nat} {w w':World} {a g:Nat} {c:Cf} {sp:Sp} {rs:List (List UInt8)} {X:Nat->Prop} (h:Ref T w g c sp rs (Own own w a)) (hk:Kept X w w') (hX:∀ k,k < w.heap.size->X k->own k ≠ a) (ho:∀ k,k < w.heap.size->own' k=own k):Ref T w' g c sp rs (Own own' w' a):=by
 obtain ⟨r,ds,h1,h2⟩:=h
 exact ⟨r,ds,(h1.kept hk (fun k hk hx=>hX k hk.2 hx hk.1)).mono (fun k hk'=>⟨(ho k hk'.2).trans hk'.1,Nat.lt_of_lt_of_le hk'.2 hk.size⟩),h2⟩
structure PlD where
 pb:Nat
 f:Nat
 r:Nat
 c:Cf
 sp:Sp
 rs:List (List UInt8)
 sq:Sp
 rq:List (List UInt8)
 T:Option Int
 Tq:Option Int × Nat
structure PlayAt (own:Nat->Nat) (w:World) (i:Nat) (p:PlD):Prop where
 blk:w.heap[p.pb]?=some (.cells #[.pointer (some ⟨p.f,0,none⟩),.pointer (some ⟨p.r,0,none⟩)] 128 (0,0))
 mine:own p.pb=0
 code:FlowOn w p.f p.c p.sp p.rs (Own own w (2*i+1)) p.T
 ref:Ref p.Tq w p.r p.c p.sq p.rq (Own own w (2*i+2))
 conf:CfOk p.c
def plPtrs (pls:List PlD):List Value:=pls.map fun p=>.pointer (some ⟨p.pb,0,none⟩)
structure PInv (own:Nat->Nat) (w:World) (bw:Nat) (ps hv:Value) (hs:List HoldD) (pls:List PlD):Prop where
 inv:WInv w bw ps hv hs
 prow:Row w 125 1 ps (plPtrs pls)
 obw:own bw=0
 ohv:∀ k,hv.ownBlock=some k->own k=0
 ops:∀ k,ps.ownBlock=some k->own k=0
 oh:∀ d ∈ hs,HoldIn (fun k=>own k=0) d
 pl:∀ (i:Nat) p,pls[i]?=some p->PlayAt own w i p
theorem HoldIn.mono {N N':Nat->Prop} {d:HoldD} {w:World} (h:HoldIn N d) (hd:Hold w d) (hN:∀ k,k < w.heap.size->N k->N' k):HoldIn N' d:=
 ⟨hN _ (Array.getElem?_eq_some_iff.1 hd.blk).1 h.1,fun k hk=>hN k (hd.rb.blk_lt hk).1 (h.2.1 k hk),fun k hk=>hN k (hd.rt.blk_lt hk).1 (h.2.2.1 k hk),fun k hk=>hN k (hd.rw_.blk_lt hk).1 (h.2.2.2 k hk)⟩
theorem WInv.kept {X:Nat->Prop} {w W:World} {bw:Nat} {ps hv:Value} {hs:List HoldD} (h:WInv w bw ps hv hs) (hk:Kept X w W) (h0:¬ X bw) (h1:∀ k,hv.ownBlock=some k->¬ X k) (h2:∀ d ∈ hs,HoldIn (fun k=>¬ X k) d):WInv W bw ps hv hs:=
 ⟨(hk.block bw (Array.getElem?_eq_some_iff.1 h.blk).1 h0).trans h.blk,h.row.kept hk h1,fun d hd=>(h.holds d hd).kept hk (h2 d hd).1 (h2 d hd).2.1 (h2 d hd).2.2.1 (h2 d hd).2.2.2⟩
theorem PInv.side {own own':Nat->Nat} {w w':World} {bw:Nat} {ps hv:Value} {hs:List HoldD} {pls:List PlD} {X:Nat->Prop} (h:PInv own w bw ps hv hs pls) (hk:Kept X w w') (hX:∀ k,k < w.heap.size->X k->own k ≠ 0) (ho:∀ k,k < w.heap.size->own' k=own k) :
 WInv w' bw ps hv hs/\Row w' 125 1 ps (plPtrs pls)/\own' bw=0/\(∀ k,hv.ownBlock=some k->own' k=0)/\(∀ k,ps.ownBlock=some k->own' k=0)/\∀ d ∈ hs,HoldIn (fun k=>own' k=0) d:=by
 have hbw:bw < w.heap.size:=(Array.getElem?_eq_some_iff.1 h.inv.blk).1
 refine ⟨h.inv.kept hk (fun hx=>hX bw hbw hx h.obw) (fun k hk hx=>hX k (h.inv.row.blk_lt hk).1 hx (h.ohv k hk)) (fun d hd=>(h.oh d hd).mono (h.inv.holds d hd) (fun k hk h0 hx=>hX k hk hx h0)),h.prow.kept hk (fun k hk hx=>hX k (h.prow.blk_lt hk).1 hx (h.ops k hk)),(ho bw hbw).trans h.obw,fun k hk=>(ho k (h.inv.row.blk_lt hk).1).trans (h.ohv k hk),fun k hk=>(ho k (h.prow.blk_lt hk).1).trans (h.ops k hk),fun d hd=>(h.oh d hd).mono (h.inv.holds d hd) (fun k hk h0=>(ho k hk).trans h0)⟩
theorem ptrs_set {pls:List PlD} {i:Nat} {p:PlD} (q:PlD) (hp:pls[i]?=some p) (hq:q.pb=p.pb):plPtrs (pls.set i q)=plPtrs pls:=by
 unfold plPtrs
 refine List.ext_getElem? (fun j=>?_)
 rw [List.getElem?_map,List.getElem?_set,List.getElem?_map]
 by_cases hi:i=j
 . subst hi
   have hl:i < pls.length:=(List.getElem?_eq_some_iff.1 hp).1
   rw [if_pos rfl,if_pos hl,hp];simp [hq]
 . simp [hi]
theorem PInv.code {own:Nat->Nat} {w w':World} {bw:Nat} {ps hv:Value} {hs:List HoldD} {pls:List PlD} (h:PInv own w bw ps hv hs pls) {i:Nat} {p:PlD} (hp:pls[i]?=some p) {sp:Sp} {rs:List (List UInt8)} (hk:Kept (Own own w (2*i+1)) w w') (hf:FlowOn w' p.f p.c sp rs (Grown (Own own w (2*i+1)) w) p.T) :
 PInv (growO own w (2*i+1)) w' bw ps hv hs (pls.set i { p with sp:=sp,rs:=rs }):=by
 have ho:∀ k,k < w.heap.size->growO own w (2*i+1) k=own k:=fun k hk=>growO_old hk
 obtain ⟨a1,a2,a3,a4,a5,a6⟩:=h.side hk (fun k _ hx h0=>by have:=hx.1;omega) ho
 refine ⟨a1,by rw [ptrs_set _ hp];exact a2;rfl,a3,a4,a5,a6,fun j q hq=>?_⟩
 rw [List.getElem?_set] at hq
 have hpb:∀ (j:Nat) q,pls[j]?=some q->w'.heap[q.pb]?=some (.cells #[.pointer (some ⟨q.f,0,none⟩),.pointer (some ⟨q.r,0,none⟩)] 128 (0,0))/\growO own w (2*i+1) q.pb=0:=fun j q hq=>by
  have hl:=(Array.getElem?_eq_some_iff.1 (h.pl j q hq).blk).1
  exact ⟨(hk.block q.pb hl (fun hx=>by have:=hx.1;have:=(h.pl j q hq).mine;omega)).trans (h.pl j q hq).blk,(ho _ hl).trans (h.pl j q hq).mine⟩
 by_cases hi:i=j
 . subst hi
   have hl:i < pls.length:=(List.getElem?_eq_some_iff.1 hp).1
   rw [if_pos rfl,if_pos hl] at hq
   simp only [Option.some.injEq] at hq
   subst hq
   exact ⟨(hpb i p hp).1,(hpb i p hp).2,hf.grow,(h.pl i p hp).ref.other hk (fun k _ hx h0=>by have:=hx.1;omega) ho,(h.pl i p hp).conf⟩
 . rw [if_neg hi] at hq
   exact ⟨(hpb j q hq).1,(hpb j q hq).2,(h.pl j q hq).code.other hk (fun k _ hx h0=>by have:=hx.1;omega) ho,(h.pl j q hq).ref.other hk (fun k _ hx h0=>by have:=hx.1;omega) ho,(h.pl j q hq).conf⟩
theorem PInv.refr {own:Nat->Nat} {w w':World} {bw:Nat} {ps hv:Value} {hs:List HoldD} {pls:List PlD} (h:PInv own w bw ps hv hs pls) {i:Nat} {p:PlD} (hp:pls[i]?=some p) {sp:Sp} {rs:List (List UInt8)} (hk:Kept (Own own w (2*i+2)) w w') (hf:Ref p.Tq w' p.r p.c sp rs (Grown (Own own w (2*i+2)) w)) :
 PInv (growO own w (2*i+2)) w' bw ps hv hs (pls.set i { p with sq:=sp,rq:=rs }):=by
 have ho:∀ k,k < w.heap.size->growO own w (2*i+2) k=own k:=fun k hk=>growO_old hk
 obtain ⟨a1,a2,a3,a4,a5,a6⟩:=h.side hk (fun k _ hx h0=>by have:=hx.1;omega) ho
 refine ⟨a1,by rw [ptrs_set _ hp];exact a2;rfl,a3,a4,a5,a6,fun j q hq=>?_⟩
 rw [List.getElem?_set] at hq
 have hpb:∀ (j:Nat) q,pls[j]?=some q->w'.heap[q.pb]?=some (.cells #[.pointer (some ⟨q.f,0,none⟩),.pointer (some ⟨q.r,0,none⟩)] 128 (0,0))/\growO own w (2*i+2) q.pb=0:=fun j q hq=>by
  have hl:=(Array.getElem?_eq_some_iff.1 (h.pl j q hq).blk).1
  exact ⟨(hk.block q.pb hl (fun hx=>by have:=hx.1;have:=(h.pl j q hq).mine;omega)).trans (h.pl j q hq).blk,(ho _ hl).trans (h.pl j q hq).mine⟩
 by_cases hi:i=j
 . subst hi
   have hl:i < pls.length:=(List.getElem?_eq_some_iff.1 hp).1
   rw [if_pos rfl,if_pos hl] at hq
   simp only [Option.some.injEq] at hq
   subst hq
   exact ⟨(hpb i p hp).1,(hpb i p hp).2,(h.pl i p hp).code.other hk (fun k _ hx h0=>by have:=hx.1;omega) ho,hf.grow,(h.pl i p hp).conf⟩
 . rw [if_neg hi] at hq
   exact ⟨(hpb j q hq).1,(hpb j q hq).2,(h.pl j q hq).code.other hk (fun k _ hx h0=>by have:=hx.1;omega) ho,(h.pl j q hq).ref.other hk (fun k _ hx h0=>by have:=hx.1;omega) ho,(h.pl j q hq).conf⟩
theorem PInv.mine {own:Nat->Nat} {w w':World} {bw:Nat} {ps hv ps' hv':Value} {hs hs':List HoldD} {pls:List PlD} {X:Nat->Prop} (h:PInv own w bw ps hv hs pls) (hk:Kept X w w') (hX:∀ k,k < w.heap.size->X k->own k=0) (hinv:WInv w' bw ps' hv' hs') (hrow:Row w' 125 1 ps' (plPtrs pls))
 (hhv:∀ k,hv'.ownBlock=some k->own k=0\/w.heap.size<=k) (hps:∀ k,ps'.ownBlock=some k->own k=0\/w.heap.size<=k) (hh:∀ d ∈ hs',HoldIn (fun k=>own k=0\/w.heap.size<=k) d)
 (hpb:∀ p ∈ pls,w'.heap[p.pb]?=w.heap[p.pb]?):PInv (growO own w 0) w' bw ps' hv' hs' pls:=by
 have ho:∀ k,k < w.heap.size->growO own w 0 k=own k:=fun k hk=>growO_old hk
 have h0:∀ k,own k=0\/w.heap.size<=k->growO own w 0 k=0:=fun k hk=>by
  by_cases hl:k < w.heap.size
  . rw [ho k hl]
    rcases hk with hk | hk
    . exact hk
    . omega
  . exact growO_new (by omega)
 refine ⟨hinv,hrow,h0 _ (.inl h.obw),fun k hk=>h0 k (hhv k hk),fun k hk=>h0 k (hps k hk),fun d hd=>?_,fun i p hp=>?_⟩
 . obtain ⟨b1,b2,b3,b4⟩:=hh d hd
   exact ⟨h0 _ b1,fun k hk=>h0 k (b2 k hk),fun k hk=>h0 k (b3 k hk),fun k hk=>h0 k (b4 k hk)⟩
 . have hpl:=h.pl i p hp
   refine ⟨(hpb p (List.mem_of_getElem? hp)).trans hpl.blk,h0 _ (.inl hpl.mine),hpl.code.other hk (fun k hk hx=>by rw [hX k hk hx];omega) ho,hpl.ref.other hk (fun k hk hx=>by rw [hX k hk hx];omega) ho,hpl.conf⟩
theorem PInv.below {own:Nat->Nat} {w w':World} {bw:Nat} {ps hv:Value} {hs:List HoldD} {pls:List PlD} (h:PInv own w bw ps hv hs pls) (hb:Below w.heap.size w w'):PInv (growO own w 0) w' bw ps hv hs pls:=by
 have hk:=Kept.ofBelow hb (fun _=>False)
 have ho:∀ k,k < w.heap.size->growO own w 0 k=own k:=fun k hk=>growO_old hk
 obtain ⟨a1,a2,a3,a4,a5,a6⟩:=h.side hk (fun k _ hx=>hx.elim) ho
 refine ⟨a1,a2,a3,a4,a5,a6,fun i p hp=>?_⟩
 have hpl:=h.pl i p hp
 have hl:=(Array.getElem?_eq_some_iff.1 hpl.blk).1
 exact ⟨(hb.block p.pb hl).trans hpl.blk,(ho _ hl).trans hpl.mine,hpl.code.other hk (fun k _ hx=>hx.elim) ho,hpl.ref.other hk (fun k _ hx=>hx.elim) ho,hpl.conf⟩
end Go.Proofs.YtcfngdnmpogaoaaGreat
namespace Go.Proofs.YtcfngdnmpogaoaaGreat
open Go.RowKit
def ownNew (own:Nat->Nat) (w:World) (i f r k:Nat):Nat:=if k < w.heap.size then own k else if k=f then 2*i+1 else if k=r then 2*i+2 else 0
theorem PInv.more {own:Nat->Nat} {w W W':World} {bw pb f r:Nat} {ps hv ps':Value} {hs:List HoldD} {pls:List PlD} {c:Cf} (h:PInv own w bw ps hv hs pls) (hb:Below w.heap.size w W) (hf:w.heap.size<=f) (hr:w.heap.size<=r) (hfr:f ≠ r)
 (hfl:FlowOn W f c Sp.new (List.replicate 8 []) (fun k=>k=f) none) (hrf:Ref (none,0) W r c Sp.new (List.replicate 8 []) (fun k=>k=r)) (hc:CfOk c)
 (hk:Kept (fun k=>k=bw\/ps.ownBlock=some k) W W') (hpb:W.heap.size<=pb) (hblk:W'.heap[pb]?=some (.cells #[.pointer (some ⟨f,0,none⟩),.pointer (some ⟨r,0,none⟩)] 128 (0,0)))
 (hinv:WInv W' bw ps' hv hs) (hrow:Row W' 125 1 ps' (plPtrs pls++[.pointer (some ⟨pb,0,none⟩)])) (hps:∀ k,ps'.ownBlock=some k->ps.ownBlock=some k\/W.heap.size<=k) :
 PInv (ownNew own w pls.length f r) W' bw ps' hv hs (pls++[⟨pb,f,r,c,Sp.new,List.replicate 8 [],Sp.new,List.replicate 8 [],none,(none,0)⟩]):=by
 have hbw:bw < w.heap.size:=(Array.getElem?_eq_some_iff.1 h.inv.blk).1
 have hsz:=hb.size
 have hszk:=hk.size
 have hfW:f < W.heap.size:=by
  obtain ⟨us,⟨st,⟨rr,gs,es,h3,-⟩,-⟩,-⟩:=hfl
  exact h3.lt (.inl rfl)
 have hrW:r < W.heap.size:=by
  obtain ⟨rr,ds,h3,-⟩:=hrf
  exact h3.rev.rf.lt
 have old:∀ k,k < w.heap.size->ownNew own w pls.length f r k=own k:=fun k hk=>if_pos hk
 have far:∀ k,W.heap.size<=k->ownNew own w pls.length f r k=0:=fun k hk=>by
  unfold ownNew
  rw [if_neg (by omega),if_neg (by omega),if_neg (by omega)]
 have ownf:ownNew own w pls.length f r f=2*pls.length+1:=by
  unfold ownNew
  rw [if_neg (by omega),if_pos rfl]
 have ownr:ownNew own w pls.length f r r=2*pls.length+2:=by
  unfold ownNew
  rw [if_neg (by omega),if_neg (fun e=>hfr e.symm),if_pos rfl]
 have hpsl:∀ k,ps.ownBlock=some k->k < w.heap.size:=fun k hk=>(h.prow.blk_lt hk).1
 have hX:∀ k,(k=bw\/ps.ownBlock=some k)->k < w.heap.size/\own k=0:=fun k hk=>by
  rcases hk with rfl | hk
  . exact ⟨hbw,h.obw⟩
  . exact ⟨hpsl k hk,h.ops k hk⟩
 have kw:Kept (fun k=>k=bw\/ps.ownBlock=some k) w W':=(Kept.ofBelow hb _).trans hk
 have hhold:∀ d ∈ hs,HoldIn (fun k=>ownNew own w pls.length f r k=0) d:=fun d hd=>(h.oh d hd).mono (h.inv.holds d hd) (fun k hk h0=>(old k hk).trans h0)
 refine ⟨hinv,?_,(old bw hbw).trans h.obw,fun k hk=>(old k (h.inv.row.blk_lt hk).1).trans (h.ohv k hk),fun k hk=>?_,hhold,fun i p hp=>?_⟩
 . have e:plPtrs (pls++[⟨pb,f,r,c,Sp.new,List.replicate 8 [],Sp.new,List.replicate 8 [],none,(none,0)⟩])=plPtrs pls++[.pointer (some ⟨pb,0,none⟩)]:=by
    unfold plPtrs;rw [List.map_append];rfl
   rw [e];exact hrow
 . rcases hps k hk with e | e
   . exact (old k (hpsl k e)).trans (h.ops k e)
   . exact far k e
 . rw [List.getElem?_append] at hp
   split at hp
   . rename_i hi
     have hpl:=h.pl i p hp
     have hl:=(Array.getElem?_eq_some_iff.1 hpl.blk).1
     have hne:¬ (p.pb=bw\/ps.ownBlock=some p.pb):=by
      rintro (e | e)
      . have:=h.inv.blk
        rw [<- e,hpl.blk] at this
        simp at this
      . exact h.prow.ne_block hpl.blk (by decide) e
     exact ⟨(kw.block p.pb hl hne).trans hpl.blk,(old _ hl).trans hpl.mine,hpl.code.other kw (fun k _ hx=>by rw [(hX k hx).2];omega) old,hpl.ref.other kw (fun k _ hx=>by rw [(hX k hx).2];omega) old,hpl.conf⟩
   . rename_i hi
     have hi2:i=pls.length:=by
      have:=(List.getElem?_eq_some_iff.1 hp).1
      simp at this;omega
     subst hi2
     simp only [Nat.sub_self,List.getElem?_cons_zero,Option.some.injEq] at hp
     subst hp
     refine ⟨hblk,far pb hpb,(hfl.kept hk (fun k e hx=>?_)).mono (fun k e=>?_),?_,hc⟩
     . have:=(hX k hx).1
       omega
     . subst e;exact ⟨ownf,by omega⟩
     . obtain ⟨rr,ds,a1,a2⟩:=hrf
       exact ⟨rr,ds,(a1.kept hk (fun k e hx=>by have:=(hX k hx).1;omega)).mono (fun k e=>by subst e;exact ⟨ownr,by omega⟩),a2⟩
end Go.Proofs.YtcfngdnmpogaoaaGreat
namespace Go.Proofs.YtcfngdnmpogaoaaGreat
open Go.RowKit
variable {bw fed:Nat} {hs:List HoldD} {hv ps:Value} {own:Nat->Nat} {pls:List PlD} {w:World}
structure Good (own:Nat->Nat) (w:World) (bw:Nat) (ps hv:Value) (hs:List HoldD) (pls:List PlD) (fed:Nat):Prop where
 inv:PInv own w bw ps hv hs pls
 even:∀ p ∈ pls,p.sq=p.sp/\p.rq=p.rs/\heft p.sp p.rs<=fed
 many:pls.length<=4
 evenT:∀ p ∈ pls,p.Tq.1=p.T
def toldS (pls:List PlD):Nat:=(pls.map fun p=>p.Tq.2).sum
theorem toldS_set {i:Nat} {p:PlD} (hp:pls[i]?=some p) (q:PlD):toldS (pls.set i q)+p.Tq.2=toldS pls+q.Tq.2:=by
 unfold toldS
 induction pls generalizing i with
 | nil=>simp at hp
 | cons a l ih=>
   cases i with
   | zero=>
     simp only [List.getElem?_cons_zero,Option.some.injEq] at hp
     subst hp
     simp only [List.set_cons_zero,List.map_cons,List.sum_cons];omega
   | succ i=>
     have:=ih (i:=i) (by simpa using hp)
     simp only [List.set_cons_succ,List.map_cons,List.sum_cons];omega
theorem toldS_two {i:Nat} {p:PlD} (hp:pls[i]?=some p) (q1 q2:PlD) (h:q2.Tq.2=p.Tq.2):toldS ((pls.set i q1).set i q2)=toldS pls:=by
 rw [List.set_set]
 have:=toldS_set hp q2
 omega
def StepL (own:Nat->Nat) (bw:Nat) (hs:List HoldD) (tl:Nat) (fed:Nat) (w:World) (e:Ending) (w':World):Prop:=
 e=.returned (.bool true)/\∃ own' ps' hv' hs' pls',Good own' w' bw ps' hv' hs' pls' fed/\(∀ k,k < w.heap.size->own' k=own k)/\Kept (fun k=>own k ≠ 99) w w'/\hs'.length+4*tl<=hs.length+4+4*toldS pls'
theorem Good.mono {fed':Nat} (h:Good own w bw ps hv hs pls fed) (hf:fed<=fed'):Good own w bw ps hv hs pls fed':=
 ⟨h.inv,fun p hp=>⟨(h.even p hp).1,(h.even p hp).2.1,Nat.le_trans (h.even p hp).2.2 hf⟩,h.many,h.evenT⟩
theorem Good.below {w':World} (h:Good own w bw ps hv hs pls fed) (hb:Below w.heap.size w w'):Good (growO own w 0) w' bw ps hv hs pls fed:=⟨h.inv.below hb,h.even,h.many,h.evenT⟩
theorem codeCall {fn:Nat} {args:Array Value} {v:Value} {W:World} (h:PInv own W bw ps hv hs pls) {i:Nat} {p:PlD} (hp:pls[i]?=some p) {sp:Sp} {rs:List (List UInt8)}
 (hcall:∀ (w:World) (F:Nat->Prop),FlowOn w p.f p.c p.sp p.rs F p.T->Calls Tryz.prog fn args w fun e w'=>e=.returned v/\FlowOn w' p.f p.c sp rs (Grown F w) p.T/\Kept F w w') :
 Calls Tryz.prog fn args W fun e w'=>e=.returned v/\PInv (growO own W (2*i+1)) w' bw ps hv hs (pls.set i { p with sp:=sp,rs:=rs })/\Kept (Own own W (2*i+1)) W w':=by
 refine (hcall W _ (h.pl i p hp).code).mono ?_
 rintro e w' ⟨rfl,h1,h2⟩
 exact ⟨rfl,h.code hp h2 h1,h2⟩
theorem refCall {fn:Nat} {args:Array Value} {v:Value} {W:World} (h:PInv own W bw ps hv hs pls) {i:Nat} {p:PlD} (hp:pls[i]?=some p) {sp:Sp} {rs:List (List UInt8)}
 (hcall:∀ (w:World) (G:Nat->Prop),Ref p.Tq w p.r p.c p.sq p.rq G->Calls Tryz.prog fn args w fun e w'=>e=.returned v/\Ref p.Tq w' p.r p.c sp rs (Grown G w)/\Kept G w w') :
 Calls Tryz.prog fn args W fun e w'=>e=.returned v/\PInv (growO own W (2*i+2)) w' bw ps hv hs (pls.set i { p with sq:=sp,rq:=rs })/\Kept (Own own W (2*i+2)) W w':=by
 refine (hcall W _ (h.pl i p hp).ref).mono ?_
 rintro e w' ⟨rfl,h1,h2⟩
 exact ⟨rfl,h.refr hp h2 h1,h2⟩
theorem Good.two {own2:Nat->Nat} {W2:World} {hv':Value} {hs':List HoldD} {fed':Nat} (h:Good own w bw ps hv hs pls fed) (hff:fed<=fed') {i:Nat} {p:PlD} (hp:pls[i]?=some p) {sp:Sp} {rs:List (List UInt8)} (hheft:heft sp rs<=fed')
 (h2:PInv own2 W2 bw ps hv' hs' ((pls.set i { p with sp:=sp,rs:=rs }).set i { ({ p with sp:=sp,rs:=rs }:PlD) with sq:=sp,rq:=rs })):Good own2 W2 bw ps hv' hs' ((pls.set i { p with sp:=sp,rs:=rs }).set i { ({ p with sp:=sp,rs:=rs }:PlD) with sq:=sp,rq:=rs }) fed':=by
 refine ⟨h2,fun q hq=>?_,by rw [List.length_set,List.length_set];exact h.many,fun q hq=>?_⟩
 . rw [List.set_set] at hq
   rcases List.mem_or_eq_of_mem_set hq with hq | rfl
   . exact ⟨(h.even q hq).1,(h.even q hq).2.1,Nat.le_trans (h.even q hq).2.2 hff⟩
   . exact ⟨rfl,rfl,hheft⟩
 . rw [List.set_set] at hq
   rcases List.mem_or_eq_of_mem_set hq with hq | rfl
   . exact h.evenT q hq
   . exact h.evenT p (List.mem_of_getElem? hp)
def pickW (c n:Int):Int:=(if c < 0 then -(c+1) else c) % n
theorem pickW_lt (c n:Int) (hn:1<=n):0<=pickW c n/\pickW c n < n:=⟨Int.emod_nonneg _ (by omega),Int.emod_lt_of_pos _ (by omega)⟩
theorem pickL_any (c n:Int) (w:World) (h1:-9223372036854775808<=c) (h2:c<=9223372036854775807) (hn:1<=n) (hn2:n<=4611686018427387904) :
 Calls Tryz.prog 54 #[.int .i64 c,.int .i64 n] w fun e w'=>e=.returned (.int .i64 (pickW c n))/\w'=w:=by
 have hz:¬ n=0:=by omega
 by_cases hc:c < 0
 . have e0:wrap64 (c+1)=c+1:=by unfold wrap64;omega
   have e1:wrap64 (-(c+1))=-(c+1):=by unfold wrap64;omega
   obtain ⟨d,hd⟩:∃ d,-(c+1)=d:=⟨_,rfl⟩
   have hd0:0<=d:=by omega
   have hm:d.tmod n=d % n:=Int.tmod_eq_emod_of_nonneg hd0
   have b1:=Int.emod_nonneg d hz
   have b2:=Int.emod_lt_of_pos d (show 0 < n by omega)
   have e2:IntKind.i64.wrap (d.tmod n)=d % n:=by rw [hm,IntKind.wrap_i64];omega
   have hp:pickW c n=d % n:=by rw [pickW,if_pos hc,hd]
   rw [hp]
   rw [hd] at e1
   go_enter Tryz.func54,Tryz.ntmps54
   go_wp2
   go_ret
   exact ⟨rfl,rfl⟩
 . have hm:c.tmod n=c % n:=Int.tmod_eq_emod_of_nonneg (by omega)
   have b1:=Int.emod_nonneg c hz
   have b2:=Int.emod_lt_of_pos c (show 0 < n by omega)
   have e2:IntKind.i64.wrap (c.tmod n)=c % n:=by rw [hm,IntKind.wrap_i64];omega
   have hp:pickW c n=c % n:=by rw [pickW,if_neg hc]
   rw [hp]
   go_enter Tryz.func54,Tryz.ntmps54
   go_wp2
   go_ret
   exact ⟨rfl,rfl⟩
end Go.Proofs.YtcfngdnmpogaoaaGreat
