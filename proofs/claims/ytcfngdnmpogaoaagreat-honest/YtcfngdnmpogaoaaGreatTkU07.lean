import Derived.Test.YtcfngdnmpogaoaaGreatTkT02
import Derived.Test.YtcfngdnmpogaoaaGreatTkT10
import Derived.Test.YtcfngdnmpogaoaaGreatTkU04
import Derived.Test.YtcfngdnmpogaoaaGreatTkT09
import Derived.Test.YtcfngdnmpogaoaaGreatTkU06
namespace Go.Proofs.YtcfngdnmpogaoaaGreat
open Go.RowKit
variable {g:Nat} {r:RCells} {w:World}
structure RF (w:World) (g:Nat) (r:RCells):Prop where
 blk:w.heap[g]?=some (.cells r.cells.toArray 140)
 len:r.src.length=8
theorem RF.cell (h:RF w g r) {i:Nat} {v:Value} (hi:r.cells[i]?=some v):w.cell? ⟨g,i,none⟩=some v:=by
 simp [World.cell?,h.blk,hi]
theorem RF.frozen (h:RF w g r) (i:Nat):w.frozen? ⟨g,i,none⟩=false:=by
 simp [World.frozen?,h.blk]
theorem flat5 (l:List RSrc) (j k:Nat) (s:RSrc) (hs:l[j]?=some s) (hk:k < 5):(l.flatMap RSrc.cells)[j*5+k]?=s.cells[k]?:=by
 induction l generalizing j with
 | nil=>simp at hs
 | cons a l ih=>
   have ha:a.cells.length=5:=rfl
   cases j with
   | zero=>
     simp at hs
     subst hs
     rw [List.flatMap_cons,List.getElem?_append_left (by omega)]
     simp
   | succ j=>
     simp at hs
     rw [List.flatMap_cons,List.getElem?_append_right (by omega),<- ih j hs]
     congr 1
     omega
theorem flat5_length (l:List RSrc):(l.flatMap RSrc.cells).length=5*l.length:=by
 induction l with
 | nil=>rfl
 | cons a l ih=>rw [List.flatMap_cons,List.length_append,ih];simp [RSrc.cells];omega
theorem RCells.srcAt (r:RCells) (j k:Nat) (s:RSrc) (hs:r.src[j]?=some s) (hk:k < 5):r.cells[4+j*5+k]?=s.cells[k]?:=by
 have hj:j < r.src.length:=(List.getElem?_eq_some_iff.1 hs).1
 have hl:=flat5_length r.src
 rw [RCells.cells,List.append_assoc,List.append_assoc,List.getElem?_append_right (by simp;omega),List.getElem?_append_left (by rw [hl];simp only [List.length_cons,List.length_nil];omega),<- flat5 r.src j k s hs hk]
 congr 1
 simp only [List.length_cons,List.length_nil];omega
theorem flat5_set (l:List RSrc) (j k:Nat) (s s':RSrc) (v:Value) (hs:l[j]?=some s) (hk:k < 5) (hc:s'.cells=s.cells.set k v):(l.set j s').flatMap RSrc.cells=(l.flatMap RSrc.cells).set (j*5+k) v:=by
 induction l generalizing j with
 | nil=>simp at hs
 | cons a l ih=>
   have ha:a.cells.length=5:=rfl
   cases j with
   | zero=>
     simp at hs
     subst hs
     rw [List.set_cons_zero,List.flatMap_cons,List.flatMap_cons,hc,List.set_append_left _ _ (by omega)]
     simp
   | succ j=>
     simp at hs
     rw [List.set_cons_succ,List.flatMap_cons,List.flatMap_cons,ih j hs,List.set_append_right _ _ (by omega)]
     congr 2
     omega
def RCells.setSrc (r:RCells) (j:Nat) (s:RSrc):RCells:={ r with src:=r.src.set j s }
theorem RCells.setSrc_cells (r:RCells) (j k:Nat) (s s':RSrc) (v:Value) (hs:r.src[j]?=some s) (hk:k < 5) (hc:s'.cells=s.cells.set k v):(r.setSrc j s').cells=r.cells.set (4+j*5+k) v:=by
 have hj:j < r.src.length:=(List.getElem?_eq_some_iff.1 hs).1
 have hl:=flat5_length r.src
 have e:4+j*5+k - 4=j*5+k:=by omega
 simp only [RCells.cells,RCells.setSrc,List.append_assoc]
 rw [flat5_set r.src j k s s' v hs hk hc,List.set_append_right _ _ (by simp only [List.length_cons,List.length_nil];omega),List.set_append_left _ _ (by rw [hl];simp only [List.length_cons,List.length_nil];omega)]
 simp only [List.length_cons,List.length_nil,Nat.zero_add,Nat.reduceAdd,e]
theorem RCells.setSrc_setSrc (r:RCells) (j:Nat) (s s':RSrc):(r.setSrc j s).setSrc j s'=r.setSrc j s':=by
 simp [RCells.setSrc]
theorem RCells.setSrc_at (r:RCells) (j:Nat) (s:RSrc) (hj:j < r.src.length):(r.setSrc j s).src[j]?=some s:=by
 simp [RCells.setSrc,hj]
theorem RF.put {r':RCells} (h:RF w g r) (i:Nat) (v:Value) (hr:r'.cells=r.cells.set i v) (hl:r'.src.length=8):RF (w.setCell ⟨g,i,none⟩ v) g r':=
 ⟨by rw [hr];simp [World.setCell,Array.getElem?_modify,h.blk],hl⟩
theorem RF.putSrc (h:RF w g r) (j k:Nat) (s s':RSrc) (v:Value) (hs:r.src[j]?=some s) (hk:k < 5) (hc:s'.cells=s.cells.set k v):RF (w.setCell ⟨g,4+j*5+k,none⟩ v) g (r.setSrc j s'):=
 h.put _ _ (r.setSrc_cells j k s s' v hs hk hc) (by simp [RCells.setSrc,h.len])
theorem RF.putAll (h:RF w g r) (j:Nat) (s:RSrc) (a b c:Bool) (d:Int) (e:ByteArray) (hs:r.src[j]?=some s) :
 RF (((((w.setCell ⟨g,4+j*5,none⟩ (.bool a)).setCell ⟨g,4+j*5+1,none⟩ (.bool b)).setCell ⟨g,4+j*5+2,none⟩ (.bool c)).setCell ⟨g,4+j*5+3,none⟩ (.int .i64 d)).setCell ⟨g,4+j*5+4,none⟩ (.string e)) g (r.setSrc j ⟨a,b,c,d,e⟩):=by
 have hj:j < r.src.length:=(List.getElem?_eq_some_iff.1 hs).1
 have hj':∀ s,j < (r.setSrc j s).src.length:=fun s=>by simp [RCells.setSrc,hj]
 have h1:=h.putSrc j 0 s ⟨a,s.broken,s.reached,s.reach,s.rest⟩ (.bool a) hs (by omega) rfl
 have h2:=h1.putSrc j 1 _ ⟨a,b,s.reached,s.reach,s.rest⟩ (.bool b) (r.setSrc_at j _ hj) (by omega) rfl
 rw [RCells.setSrc_setSrc] at h2
 have h3:=h2.putSrc j 2 _ ⟨a,b,c,s.reach,s.rest⟩ (.bool c) (r.setSrc_at j _ hj) (by omega) rfl
 rw [RCells.setSrc_setSrc] at h3
 have h4:=h3.putSrc j 3 _ ⟨a,b,c,d,s.rest⟩ (.int .i64 d) (r.setSrc_at j _ hj) (by omega) rfl
 rw [RCells.setSrc_setSrc] at h4
 have h5:=h4.putSrc j 4 _ ⟨a,b,c,d,e⟩ (.string e) (r.setSrc_at j _ hj) (by omega) rfl
 rw [RCells.setSrc_setSrc] at h5
 exact h5
theorem ropen_yes (g n:Nat) (r:RCells) (s:RSrc) (w:World) (h:RF w g r) (hs:r.src[n]?=some s) (ho:s.opened=false) :
 Calls Tryz.prog 55 #[.pointer (some ⟨g,0,none⟩),.int .i64 n] w fun e w'=>e=.returned (.int .i64 0)/\RF w' g (r.setSrc n ⟨true,false,false,0,⟨#[]⟩⟩)/\Kept (fun k=>k=g) w w':=by
 have hn:n < 8:=by have:=(List.getElem?_eq_some_iff.1 hs).1;have:=h.len;omega
 have c0:w.cell? ⟨g,4+n*5,none⟩=some (.bool false):=h.cell (by rw [<- ho];exact r.srcAt n 0 s hs (by omega))
 have c1:w.cell? ⟨g,4+n*5+1,none⟩=some (.bool s.broken):=h.cell (r.srcAt n 1 s hs (by omega))
 have c2:w.cell? ⟨g,4+n*5+2,none⟩=some (.bool s.reached):=h.cell (r.srcAt n 2 s hs (by omega))
 have c3:w.cell? ⟨g,4+n*5+3,none⟩=some (.int .i64 s.reach):=h.cell (r.srcAt n 3 s hs (by omega))
 have c4:w.cell? ⟨g,4+n*5+4,none⟩=some (.string s.rest):=h.cell (r.srcAt n 4 s hs (by omega))
 have fz:∀ j,w.frozen? ⟨g,j,none⟩=false:=h.frozen
 have HR:=h.putAll n s true false false 0 ⟨#[]⟩ hs
 have HH:=hid HR
 clear HR h
 go_enter Tryz.func55,Tryz.ntmps55
 go_wp2_with fail
 go_ret
 refine ⟨rfl,HH.out,?_⟩
 refine Kept.setCell ?_ ⟨g,_,none⟩ _ (fun _=>rfl)
 refine Kept.setCell ?_ ⟨g,_,none⟩ _ (fun _=>rfl)
 refine Kept.setCell ?_ ⟨g,_,none⟩ _ (fun _=>rfl)
 refine Kept.setCell ?_ ⟨g,_,none⟩ _ (fun _=>rfl)
 refine Kept.setCell ?_ ⟨g,_,none⟩ _ (fun _=>rfl)
 exact Kept.refl _ w
theorem ropen_no (g n:Nat) (r:RCells) (s:RSrc) (w:World) (h:RF w g r) (hs:r.src[n]?=some s) (ho:s.opened=true) :
 Calls Tryz.prog 55 #[.pointer (some ⟨g,0,none⟩),.int .i64 n] w fun e w'=>e=.returned (.int .i64 4)/\w'=w:=by
 have hn:n < 8:=by have:=(List.getElem?_eq_some_iff.1 hs).1;have:=h.len;omega
 have c0:w.cell? ⟨g,4+n*5,none⟩=some (.bool true):=h.cell (by rw [<- ho];exact r.srcAt n 0 s hs (by omega))
 clear h
 go_enter Tryz.func55,Tryz.ntmps55
 go_wp2_with fail
 go_ret
 exact ⟨rfl,rfl⟩
theorem ropen_out (g:Nat) (n:Int) (w:World) (hn:¬ (0<=n/\n < 8)) :
 Calls Tryz.prog 55 #[.pointer (some ⟨g,0,none⟩),.int .i64 n] w fun e w'=>e=.returned (.int .i64 3)/\w'=w:=by
 by_cases h0:n < 0
 . have h8:¬ 8<=n:=by omega
   clear hn
   go_enter Tryz.func55,Tryz.ntmps55
   go_wp2_with fail
   go_ret
   exact ⟨rfl,rfl⟩
 . have h8:8<=n:=by omega
   clear hn
   go_enter Tryz.func55,Tryz.ntmps55
   go_wp2_with fail
   go_ret
   exact ⟨rfl,rfl⟩
end Go.Proofs.YtcfngdnmpogaoaaGreat
namespace Go.Proofs.YtcfngdnmpogaoaaGreat
open Go.RowKit
abbrev tagV (n:Nat):Value:=.int .u32 (n:Int)
def tagStep (t:Nat) (st:List Nat × Bool) (x:Nat):List Nat × Bool:=
 let a:List Nat × Bool:=if t<=x/\st.2=false then (st.1++[t],true) else st
 if x ≠ t then (a.1++[x],a.2) else a
def tagFold (t:Nat) (l:List Nat):List Nat × Bool:=l.foldl (tagStep t) ([],false)
def taggedL (l:List Nat) (t:Nat):List Nat:=if (tagFold t l).2 then (tagFold t l).1 else (tagFold t l).1++[t]
theorem tagFold_snoc (t:Nat) (l:List Nat) (x:Nat):tagFold t (l++[x])=tagStep t (tagFold t l) x:=by
 simp [tagFold]
theorem tagStep_len (t:Nat) (st:List Nat × Bool) (x:Nat):(tagStep t st x).1.length<=st.1.length+2:=by
 simp only [tagStep]
 (repeat' split) <;> simp <;> omega
theorem tagFold_len (t:Nat) (l:List Nat):(tagFold t l).1.length<=2*l.length:=by
 have h:∀ (l:List Nat) (st:List Nat × Bool),(l.foldl (tagStep t) st).1.length<=st.1.length+2*l.length:=by
  intro l
  induction l with
  | nil=>intro st;simp
  | cons x l ih=>intro st;have:=ih (tagStep t st x);have:=tagStep_len t st x;simp only [List.foldl_cons,List.length_cons];omega
 simpa [tagFold] using h l ([],false)
theorem tagFold_take (t:Nat) (l:List Nat) (n:Nat) (h:n < l.length):tagFold t (l.take (n+1))=tagStep t (tagFold t (l.take n)) l[n]:=by
 rw [List.take_succ_eq_append_getElem h,tagFold_snoc]
end Go.Proofs.YtcfngdnmpogaoaaGreat
namespace Go.Proofs.YtcfngdnmpogaoaaGreat
open Go.RowKit
set_option maxHeartbeats 3200000
set_option maxRecDepth 20000
theorem u32_src (w:World) (X:Int):Src Tryz.prog 1 68 (.slice (some ⟨w.heap.size,0,none⟩) 1 1) 1 [.int .u32 X] (w.alloc (.cells #[.int .u32 X] 26)):=
 Src.ofSlice _ Tryz.underlying68 ⟨w.heap.size,0,none⟩ 1 1 _ rfl (one_new w _ _) (by simp [Value.oneCell'])
def gapB:Bool->Nat
 | true=>0
 | false=>1
theorem tagged_len (l:List Nat) (t:Nat):(taggedL l t).length<=l.length+1:=by
 have key:∀ (l:List Nat) (st:List Nat × Bool),(l.foldl (tagStep t) st).1.length+gapB (l.foldl (tagStep t) st).2<=st.1.length+gapB st.2+l.length:=by
  intro l
  induction l with
  | nil=>intro st;exact Nat.le_refl _
  | cons x l ih=>
    intro st
    have h1:=ih (tagStep t st x)
    have h2:(tagStep t st x).1.length+gapB (tagStep t st x).2<=st.1.length+gapB st.2+1:=by
     obtain ⟨o,d⟩:=st
     simp only [tagStep]
     cases d <;> (repeat' split) <;> simp_all [gapB] <;> omega
    rw [List.foldl_cons,List.length_cons];omega
 have:=key l ([],false)
 unfold taggedL tagFold
 cases hb:(l.foldl (tagStep t) ([],false)).2 with
 | true=>rw [hb] at this;simp [gapB] at this ⊢;omega
 | false=>rw [hb] at this;simp [gapB] at this ⊢;omega
structure TgInv (w wr:World) (l:List Nat) (t:Nat) (n:Nat) (b d:Value):Prop where
 row:Row wr 26 1 b ((tagFold t (l.take n)).1.map tagV)
 there:d=.bool (tagFold t (l.take n)).2
 blk:∀ g,b.ownBlock=some g->w.heap.size<=g
 below:Below w.heap.size w wr
theorem tagged_any (v:Value) (l:List Nat) (t:Nat) (w:World) (h:Row w 26 1 v (l.map tagV)) (hl:l.length<=1000000000) :
 Calls Tryz.prog 161 #[v,tagV t] w fun e w'=>∃ v',e=.returned v'/\Row w' 26 1 v' ((taggedL l t).map tagV)/\(∀ g,v'.ownBlock=some g->w.heap.size<=g)/\Below w.heap.size w w':=by
 obtain ⟨i,hi,hz0,hz1,hz2⟩:=info_parts info42
 have HR:=hid h
 obtain ⟨va,vc,hv,hvc⟩:=h.slice
 rw [List.length_map] at hv hvc
 obtain ⟨T,hT⟩:∃ T:Int,T=(t:Int):=⟨_,rfl⟩
 have HT:=hid hT
 have eT:tagV t=.int .u32 T:=by rw [hT]
 rw [eT]
 clear h hT eT
 subst hv
 go_enter Tryz.func161,Tryz.ntmps161
 go_wp2
 go_loopw [5,6,7] (fun b d c wr=>∃ (n:Nat),n<=l.length/\c=.int .i64 (n:Int)/\TgInv w wr l t n b d) (fun _ _ c _=>l.length - (intOf c).toNat)
 case atStart=>exact ⟨0,Nat.zero_le _,rfl,Row.nil _ _ _,rfl,fun g hg=>by simp [Value.ownBlock] at hg,Below.refl _ _⟩
 case round=>
  obtain ⟨n,hn,rfl,hI⟩:=hrel
  have HI:=hid hI
  have hd:=hI.there
  subst hd
  by_cases hlt:n < l.length
  . have hx:l[n]?=some l[n]:=List.getElem?_eq_getElem hlt
    have hfs:=tagFold_take t l n hlt
    generalize l[n]=x at *
    obtain ⟨gv,ov,nv,cv,hv,hnv,-⟩:=HR.out.shape (by intro e;have:=congrArg List.length e;simp at this;rw [this] at hlt;simp at hlt)
    simp only [Value.slice.injEq] at hv
    obtain ⟨rfl,rfl,rfl⟩:=hv
    have hlen:=tagFold_len t (l.take n)
    rw [List.length_take] at hlen
    have hr:=hI.row
    have hb:=hI.blk
    have hB:=hI.below
    have hBr:=hB.size
    have HB:=hid hB
    have c0:wr.cell? ⟨gv,ov+n,none⟩=some (.int .u32 (x:Int)):=by
     have:=HR.out.cell n (by omega)
     rw [List.getElem?_map,hx] at this
     rw [hB.cell (show (⟨gv,ov+n,none⟩:Addr).block < _ from (HR.out.blk_lt rfl).1)];simpa using this
    obtain ⟨X,hX⟩:∃ X:Int,X=(x:Int):=⟨_,rfl⟩
    have HX:=hid hX
    rw [<- hX] at c0
    have HF:=hid hfs
    clear hfs hI hx hX
    have hnl:(n:Int) < (l.length:Int):=by omega
    have hwn:IntKind.i64.wrap ((n:Int)+1)=(n:Int)+1:=by rw [IntKind.wrap_i64];omega
    generalize hst:tagFold t (l.take n)=st at *
    obtain ⟨o,d⟩:=st
    simp only at *
    have hol:(o.map tagV).length=o.length:=by simp
    have hol2:o.length<=2*n:=by omega
    clear hlen
    have HO:=hid hst
    clear hst
    generalize hLL:o.map tagV=L at *
    have HLL:=hid hLL
    clear hLL
    by_cases h1:t<=x/\d=false
    . obtain ⟨h1,rfl⟩:=h1
      have hTX:T<=X:=by rw [HT.out,HX.out];omega
      go_wp2_with (at_builtin;go_must (refine wpList_append _ rfl _ _ _ _ rfl 26 i (.int .u32 0) 1 4 Tryz.underlying68 hi hz0 hz1 hz2 rfl Nat.one_pos u5 L rfl (hr.alloc _) (.slice (some ⟨wr.heap.size,0,none⟩) 1 1) 1 [.int .u32 T] rfl (u32_src wr T) Nat.one_pos ?h63 ?hby ?next))
      case h63=>rw [hol];simp only [maxLen];omega
      case hby=>rw [hol];omega
      intro v1 W1 ha
      have HA:=hid ha
      have hb1:Below w.heap.size wr W1:=((Below.refl _ wr).alloc hBr _).trans (ha.below hb (by simp;omega))
      have HB1:=hid hb1
      have hblk1:=ha.blk hb (by simp;omega)
      have c1:W1.cell? ⟨gv,ov+n,none⟩=some (.int .u32 X):=by
       rw [hb1.cell (show (⟨gv,ov+n,none⟩:Addr).block < _ from (HR.out.blk_lt rfl).1)];exact c0
      have hr1:=ha.row
      clear ha hb1 c0
      by_cases h2:x=t
      . have hXT:X=T:=by rw [HT.out,HX.out,h2]
        subst hXT
        go_wp2_with fail
        go_roundw
        case rel=>
         refine ⟨n+1,by omega,by go_num,?_,?_,hblk1,HB.out.trans HB1.out⟩
         . rw [HF.out,show tagStep t (o,false) x=(o++[t],true) from by simp [tagStep,h2],List.map_append,HLL.out,List.map_cons,List.map_nil,tagV,<- HT.out];exact hr1
         . rw [HF.out,show tagStep t (o,false) x=(o++[t],true) from by simp [tagStep,h2]]
        case measure=>simp [intOf];omega
      . have hXT:¬ X=T:=by rw [HT.out,HX.out];omega
        have hol1:(L++[Value.int .u32 T]).length=o.length+1:=by simp [hol]
        have hB1s:=HB1.out.size
        generalize hL1:L++[Value.int .u32 T]=L1 at *
        have HL1:=hid hL1
        clear hL1 HA
        go_wp2_with (at_builtin;go_must (refine wpList_append _ rfl _ _ _ _ rfl 26 i (.int .u32 0) 1 4 Tryz.underlying68 hi hz0 hz1 hz2 rfl Nat.one_pos v1 L1 rfl (hr1.alloc _) (.slice (some ⟨W1.heap.size,0,none⟩) 1 1) 1 [.int .u32 X] rfl (u32_src W1 X) Nat.one_pos ?h63b ?hbyb ?nextb))
        case h63b=>rw [hol1];simp only [maxLen];omega
        case hbyb=>rw [hol1];omega
        intro v2 W2 ha
        have hb2:Below w.heap.size W1 W2:=((Below.refl _ W1).alloc (by omega) _).trans (ha.below hblk1 (by simp;omega))
        have HB2:=hid hb2
        have hblk2:=ha.blk hblk1 (by simp;omega)
        have hr2:=ha.row
        clear ha hb2 c1
        go_wp2_with fail
        go_roundw
        case rel=>
         refine ⟨n+1,by omega,by go_num,?_,?_,hblk2,(HB.out.trans HB1.out).trans HB2.out⟩
         . rw [HF.out,show tagStep t (o,false) x=((o++[t])++[x],true) from by simp [tagStep,h1,h2],List.map_append,List.map_append,HLL.out,List.map_cons,List.map_nil,List.map_cons,List.map_nil,tagV,tagV,<- HT.out,<- HX.out,HL1.out];exact hr2
         . rw [HF.out,show tagStep t (o,false) x=((o++[t])++[x],true) from by simp [tagStep,h1,h2]]
        case measure=>simp [intOf];omega
    . have hno:(decide (T<=X) && !d)=false:=by
       cases d with
       | true=>simp
       | false=>
         have:¬ T<=X:=by rw [HT.out,HX.out];intro hh;exact h1 ⟨by omega,rfl⟩
         simp [this]
      by_cases h2:x=t
      . have hXT:X=T:=by rw [HT.out,HX.out,h2]
        subst hXT
        have hdt:d=true:=by
         cases d with
         | true=>rfl
         | false=>exact absurd ⟨by omega,rfl⟩ h1
        subst hdt
        clear hno
        go_wp2_with fail
        go_roundw
        case rel=>
         refine ⟨n+1,by omega,by go_num,?_,?_,hb,HB.out⟩
         . rw [HF.out,show tagStep t (o,true) x=(o,true) from by simp [tagStep,h2],HLL.out];exact hr
         . rw [HF.out,show tagStep t (o,true) x=(o,true) from by simp [tagStep,h2]]
        case measure=>simp [intOf];omega
      . have hXT:¬ X=T:=by rw [HT.out,HX.out];omega
        have hst:tagStep t (o,d) x=(o++[x],d):=by
         simp only [tagStep]
         rw [if_neg h1,if_pos h2]
        have HS:=hid hst
        clear hst
        have hcase:d=true\/¬ T<=X:=by
         cases d with
         | true=>exact .inl rfl
         | false=>exact .inr (by intro hh;simp [hh] at hno)
        clear hno
        by_cases hTX:T<=X
        . have hdt:d=true:=by
           rcases hcase with h | h
           . exact h
           . exact absurd hTX h
          subst hdt
          clear hcase
          go_wp2_with (at_builtin;go_must (refine wpList_append _ rfl _ _ _ _ rfl 26 i (.int .u32 0) 1 4 Tryz.underlying68 hi hz0 hz1 hz2 rfl Nat.one_pos u5 L rfl (hr.alloc _) (.slice (some ⟨wr.heap.size,0,none⟩) 1 1) 1 [.int .u32 X] rfl (u32_src wr X) Nat.one_pos ?h63c ?hbyc ?nextc))
          case h63c=>rw [hol];simp only [maxLen];omega
          case hbyc=>rw [hol];omega
          intro v1 W1 ha
          have HB1:Hid (Below w.heap.size wr W1):=((Below.refl _ wr).alloc hBr _).trans (ha.below hb (by simp;omega))
          have hblk1:=ha.blk hb (by simp;omega)
          have hr1:=ha.row
          clear ha c0
          go_wp2_with fail
          go_roundw
          case rel=>
           refine ⟨n+1,by omega,by go_num,?_,?_,hblk1,HB.out.trans HB1.out⟩
           . rw [HF.out,HS.out,List.map_append,HLL.out,List.map_cons,List.map_nil,tagV,<- HX.out];exact hr1
           . rw [HF.out,HS.out]
          case measure=>simp [intOf];omega
        . clear hcase
          go_wp2_with (at_builtin;go_must (refine wpList_append _ rfl _ _ _ _ rfl 26 i (.int .u32 0) 1 4 Tryz.underlying68 hi hz0 hz1 hz2 rfl Nat.one_pos u5 L rfl (hr.alloc _) (.slice (some ⟨wr.heap.size,0,none⟩) 1 1) 1 [.int .u32 X] rfl (u32_src wr X) Nat.one_pos ?h63d ?hbyd ?nextd))
          case h63d=>(try rw [hol]);simp only [maxLen];omega
          case hbyd=>(try rw [hol]);omega
          intro v1 W1 ha
          have HB1:Hid (Below w.heap.size wr W1):=((Below.refl _ wr).alloc hBr _).trans (ha.below hb (by simp;omega))
          have hblk1:=ha.blk hb (by simp;omega)
          have hr1:=ha.row
          clear ha c0
          go_wp2_with fail
          go_roundw
          case rel=>
           refine ⟨n+1,by omega,by go_num,?_,?_,hblk1,HB.out.trans HB1.out⟩
           . rw [HF.out,HS.out,List.map_append,HLL.out,List.map_cons,List.map_nil,tagV,<- HX.out];exact hr1
           . rw [HF.out,HS.out]
          case measure=>simp [intOf];omega
  . have hnl:n=l.length:=by omega
    subst hnl
    have hr:=hI.row
    have hb:=hI.blk
    have hB:=hI.below
    have hBr:=hB.size
    have HB:=hid hB
    have hlen:=tagFold_len t l
    rw [List.take_length] at hr
    have HF:Hid (taggedL l t=if (tagFold t l).2 then (tagFold t l).1 else (tagFold t l).1++[t]):=rfl
    have hTk:tagFold t (l.take l.length)=tagFold t l:=by rw [List.take_length]
    rw [hTk] at *
    clear hTk
    generalize tagFold t l=st at *
    obtain ⟨o,d⟩:=st
    simp only at *
    cases d with
    | true=>
      go_wp2_with fail
      go_ret
      refine ⟨_,rfl,?_,hb,HB.out⟩
      rw [HF.out];exact hr
    | false=>
      have hol:(o.map tagV).length=o.length:=by simp
      generalize hLL:o.map tagV=L at *
      have HLL:=hid hLL
      clear hLL
      go_wp2_with (at_builtin;go_must (refine wpList_append _ rfl _ _ _ _ rfl 26 i (.int .u32 0) 1 4 Tryz.underlying68 hi hz0 hz1 hz2 rfl Nat.one_pos u5 L rfl (hr.alloc _) (.slice (some ⟨wr.heap.size,0,none⟩) 1 1) 1 [.int .u32 T] rfl (u32_src wr T) Nat.one_pos ?h63e ?hbye ?nexte))
      case h63e=>rw [hol];simp only [maxLen];omega
      case hbye=>rw [hol];omega
      intro v1 W1 ha
      have HB1:Hid (Below w.heap.size wr W1):=((Below.refl _ wr).alloc hBr _).trans (ha.below hb (by simp;omega))
      have hblk1:=ha.blk hb (by simp;omega)
      have hr1:=ha.row
      clear ha
      go_wp2_with fail
      go_ret
      refine ⟨_,rfl,?_,hblk1,HB.out.trans HB1.out⟩
      rw [HF.out]
      simp only [Bool.false_eq_true,if_false]
      rw [List.map_append,HLL.out,List.map_cons,List.map_nil,tagV,<- HT.out];exact hr1
end Go.Proofs.YtcfngdnmpogaoaaGreat
namespace Go.Proofs.YtcfngdnmpogaoaaGreat
open Go.RowKit Go.MuLone Go.Maps
variable {d:RunD} {r:RunS}
set_option maxHeartbeats 3200000
def qsOf (d:RunD) (r:RunS):List PaneQ:=List.zipWith (fun (q:Nat × Nat) (p:Pane)=>⟨q.1,p.first,p.last⟩) d.Ps r.ps
theorem qsOf_len (h:d.Ps.length=r.ps.length):(qsOf d r).length=r.ps.length:=by simp [qsOf,h]
theorem qsOf_at {i:Nat} {q:PaneQ} (h:(qsOf d r)[i]?=some q):∃ P M p,d.Ps[i]?=some (P,M)/\r.ps[i]?=some p/\q=⟨P,p.first,p.last⟩:=by
 unfold qsOf at h
 rw [List.getElem?_zipWith] at h
 cases h1:d.Ps[i]? with
 | none=>simp [h1] at h
 | some x=>
   cases h2:r.ps[i]? with
   | none=>simp [h1,h2] at h
   | some p=>simp [h1,h2] at h;exact ⟨x.1,x.2,p,rfl,rfl,h.symm⟩
theorem qsOf_mk {i P M:Nat} {p:Pane} (h1:d.Ps[i]?=some (P,M)) (h2:r.ps[i]?=some p):(qsOf d r)[i]?=some ⟨P,p.first,p.last⟩:=by
 unfold qsOf
 rw [List.getElem?_zipWith,h1,h2]
theorem qsOf_of (h:d.Ps.length=r.ps.length) {t:Nat} {q:Pane} (hq:r.ps[t]?=some q):∃ P M,d.Ps[t]?=some (P,M)/\(qsOf d r)[t]?=some ⟨P,q.first,q.last⟩:=by
 have hti:t < r.ps.length:=(List.getElem?_eq_some_iff.1 hq).1
 have hi:t < d.Ps.length:=by omega
 exact ⟨(d.Ps[t]).1,(d.Ps[t]).2,by simp [hi],qsOf_mk (M:=(d.Ps[t]).2) (by simp [hi]) hq⟩
theorem ptrs_qs (h:d.Ps.length=r.ps.length):ptrs (qsOf d r)=d.Ps.map fun p=>.pointer (some ⟨p.1,0,none⟩):=by
 refine List.ext_getElem? (fun i=>?_)
 unfold ptrs
 rw [List.getElem?_map,List.getElem?_map]
 cases h1:d.Ps[i]? with
 | none=>
   have hi:d.Ps.length<=i:=by simpa using h1
   have:(qsOf d r)[i]?=none:=by rw [List.getElem?_eq_none_iff,qsOf_len h];omega
   rw [this];rfl
 | some x=>
   have hi:i < d.Ps.length:=(List.getElem?_eq_some_iff.1 h1).1
   have h2:r.ps[i]?=some r.ps[i]:=List.getElem?_eq_getElem (by omega)
   rw [qsOf_mk (P:=x.1) (M:=x.2) (by rw [h1]) h2];rfl
theorem insAt' {α:Type} (xs:List α) (k j:Nat) (x:α) (hk:k<=xs.length):(xs.take k++x :: xs.drop k)[j]?=if j < k then xs[j]? else if j=k then some x else xs[j - 1]?:=by
 split
 . rename_i h;rw [List.getElem?_append_left (by simp;omega),List.getElem?_take,if_pos h]
 . rename_i h
   rw [List.getElem?_append_right (by simp;omega),List.length_take,Nat.min_eq_left hk]
   split
   . rename_i h2;subst h2;simp
   . rename_i h2
     rw [show j - k=(j - k - 1)+1 from by omega,List.getElem?_cons_succ,List.getElem?_drop]
     congr 1;omega
theorem ins_perm {α:Type} (xs:List α) (k:Nat) (x:α):(xs.take k++x :: xs.drop k).Perm (x :: xs):=by
 have h:=List.perm_middle (a:=x) (l₁:=xs.take k) (l₂:=xs.drop k)
 rw [List.take_append_drop] at h
 exact h
def Sorted (ps:List Pane):Prop:=∀ (i j:Nat) p q,i < j->ps[i]?=some p->ps[j]?=some q->cmpW p.first p.last q.first q.last < 0
theorem cmpW_lt {a b c d:Int}:cmpW a b c d < 0 ↔ a < c\/a=c/\b < d:=by
 unfold cmpW orI
 rcases cmpI_cases a c with ⟨h1,e1⟩ | ⟨h1,e1⟩ | ⟨h1,e1⟩ <;> rcases cmpI_cases b d with ⟨h2,e2⟩ | ⟨h2,e2⟩ | ⟨h2,e2⟩ <;> rw [e1,e2] <;> simp <;> omega
theorem cmpW_eq {a b c d:Int}:cmpW a b c d=0 ↔ a=c/\b=d:=by
 unfold cmpW orI
 rcases cmpI_cases a c with ⟨h1,e1⟩ | ⟨h1,e1⟩ | ⟨h1,e1⟩ <;> rcases cmpI_cases b d with ⟨h2,e2⟩ | ⟨h2,e2⟩ | ⟨h2,e2⟩ <;> rw [e1,e2] <;> simp <;> omega
structure PaneFor (r:RunS) (f l:Int) (k:Nat) (r':RunS):Prop where
 key:r'.key=r.key
 inside:r'.inside=r.inside
 next:r'.next=r.next
 ins:r.inside<=k
 here:∃ p,r'.ps[k]?=some p/\p.first=f/\p.last=l
 how:r'.ps=r.ps\/(k<=r.ps.length/\(∀ (t:Nat) q,t < k->r.ps[t]?=some q->cmpW q.first q.last f l < 0)/\(∀ (t:Nat) q,k<=t->r.ps[t]?=some q->0 < cmpW q.first q.last f l)/\r'.ps=r.ps.take k++⟨f,l,[]⟩ :: r.ps.drop k)
theorem pane_mono (hs:Sorted r.ps) (f l:Int):∀ (a b:Nat) qa qb,a<=b->(qsOf d r)[a]?=some qa->(qsOf d r)[b]?=some qb->cmpW qb.f qb.l f l < 0->cmpW qa.f qa.l f l < 0:=by
 intro a b qa qb hab ha hb h
 obtain ⟨P,M,p,_,h2,rfl⟩:=qsOf_at ha
 obtain ⟨P',M',p',_,h2',rfl⟩:=qsOf_at hb
 by_cases he:a=b
 . subst he;rw [h2] at h2';cases h2';exact h
 . have:=hs a b p p' (by omega) h2 h2'
   rw [cmpW_lt] at this h ⊢
   simp only at h ⊢
   omega
theorem paneOf_run (d:RunD) (r:RunS) (f l:Int) (w:World) (h:RunAt w d r) (hs:Sorted r.ps) (hn:r.ps.length<=1000000000000) (hin:∀ (t:Nat) q,t < r.inside->r.ps[t]?=some q->cmpW q.first q.last f l < 0) :
 Calls Tryz.prog 147 #[.pointer (some ⟨d.R,0,none⟩),.agg #[.int .i64 f,.int .i64 l]] w fun e w'=>∃ k P M d' r',e=.returned (.pointer (some ⟨P,0,none⟩))/\PaneFor r f l k r'/\RunAt w' d' r'/\d'.R=d.R/\d'.Ps[k]?=some (P,M)/\(∀ x,d'.foot x->d.foot x\/w.heap.size<=x)/\Kept d.foot w w':=by
 have hrow:=h.panes
 rw [<- ptrs_qs h.len] at hrow
 refine (paneOf_raw d.R r.key d.pv _ (r.inside:Int) r.next f l (qsOf d r) w h.run hrow (fun q hq=>?_) (pane_mono hs f l) (by rw [qsOf_len h.len];exact hn)).mono ?_
 . obtain ⟨i,hi,rfl⟩:=List.mem_iff_getElem.1 hq
   obtain ⟨P,M,p,h1,h2,e⟩:=qsOf_at (List.getElem?_eq_getElem hi)
   rw [e]
   obtain ⟨c0,c1,-,-,-,-,-,-⟩:=paneAt (h.each i P M p h1 h2).pane
   exact ⟨c0,c1⟩
 . rintro e w' ⟨k,P,fd,hF,rfl,hcase⟩
   have hle:=hF.le
   rw [qsOf_len h.len] at hle
   have hik:r.inside<=k:=by
    refine Nat.le_of_not_lt (fun hk=>?_)
    have hk2:k < r.ps.length:=by have:=h.ins;omega
    have h2:r.ps[k]?=some r.ps[k]:=List.getElem?_eq_getElem hk2
    obtain ⟨P0,M0,-,hq0⟩:=qsOf_of h.len h2
    have g1:=hF.more k _ (Nat.le_refl _) hq0
    have g2:=hin k _ hk h2
    simp only at g1
    omega
   rcases hcase with ⟨rfl,⟨q,hq,hqP⟩,hb⟩ | ⟨rfl,M,pv',hP,hM,hPM,hpane,hmap,hrun,hrow',hown,hkp⟩
   . obtain ⟨P',M',p,h1,h2,e⟩:=qsOf_at hq
     obtain ⟨q',hq',h0⟩:=hF.here.1 rfl
     rw [hq] at hq'
     cases hq'
     rw [e] at h0 hqP
     rw [cmpW_eq] at h0
     simp only at h0 hqP
     subst hqP
     exact ⟨k,P',M',d,r,rfl,⟨rfl,rfl,rfl,hik,⟨p,h2,h0.1,h0.2⟩,.inl rfl⟩,h.congr (fun x hx=>hb.block x (h.lt hx)),rfl,h1,fun x hx=>.inl hx,Kept.ofBelow hb _⟩
   . have hqk:∀ (t:Nat) q,k<=t->r.ps[t]?=some q->0 < cmpW q.first q.last f l:=by
      intro t q ht hq
      have hti:t < r.ps.length:=(List.getElem?_eq_some_iff.1 hq).1
      obtain ⟨P0,M0,-,hq0⟩:=qsOf_of h.len hq
      have hm:=hF.more t _ ht hq0
      simp only at hm
      by_cases h0:cmpW q.first q.last f l=0
      . exfalso
        by_cases htk:t=k
        . subst htk
          have:=hF.here.2 ⟨_,hq0,h0⟩
          cases this
        . have hki:k < r.ps.length:=by omega
          have hk2:r.ps[k]?=some r.ps[k]:=List.getElem?_eq_getElem hki
          obtain ⟨P1,M1,-,hq1⟩:=qsOf_of h.len hk2
          have hmk:=hF.more k _ (Nat.le_refl _) hq1
          have:=hs k t _ _ (by omega) hk2 hq
          have e0:=cmpW_eq.1 h0
          rw [e0.1,e0.2] at this
          simp only at hmk
          omega
      . omega
     have hlt:∀ x,d.foot x->x < w.heap.size:=fun x hx=>h.lt hx
     have hPs:∀ q ∈ d.Ps,q.1 < w.heap.size/\q.2 < w.heap.size:=fun q hq=>⟨hlt _ (.inr (.inr (.inl ⟨q,hq,.inl rfl⟩))),hlt _ (.inr (.inr (.inl ⟨q,hq,.inr rfl⟩)))⟩
     have hbn:∀ x,d.foot x->x ≠ d.R->d.pv.ownBlock ≠ some x->w'.heap[x]?=w.heap[x]?:=fun x hx h1 h2=>hkp.block x (hlt x hx) (fun hh=>hh.elim h1 h2)
     have hpaneNe:∀ q ∈ d.Ps,(q.1 ≠ d.R/\d.pv.ownBlock ≠ some q.1)/\(q.2 ≠ d.R/\d.pv.ownBlock ≠ some q.2):=fun q hq=>by
      obtain ⟨p,hp⟩:=h.at hq
      refine ⟨⟨(Cb.of hp.pane).ne (Cb.of h.run) (by decide),fun e=>(h.panes.cb e).ne (Cb.of hp.pane) (by decide) rfl⟩,⟨fun e=>(Cb.of h.run).neM hp.tags.mb e.symm,fun e=>(h.panes.cb e).neM hp.tags.mb rfl⟩⟩
     have hpartNe:∀ x,partsFoot d.b d.cv d.gv x->x ≠ d.R/\d.pv.ownBlock ≠ some x:=fun x hx=>by
      rcases h.parts.kind hx with ⟨_,c⟩ | ⟨_,c⟩ | ⟨_,c⟩ | ⟨_,c⟩ | c
      . exact ⟨c.ne (Cb.of h.run) (by decide),fun e=>(h.panes.cb e).ne c (by decide) rfl⟩
      . exact ⟨c.ne (Cb.of h.run) (by decide),fun e=>(h.panes.cb e).ne c (by decide) rfl⟩
      . exact ⟨fun e=>(Cb.of h.run).neM c e.symm,fun e=>(h.panes.cb e).neM c rfl⟩
      . exact ⟨c.ne (Cb.of h.run) (by decide),fun e=>(h.panes.cb e).ne c (by decide) rfl⟩
      . exact ⟨c.ne (Cb.of h.run) (by decide),fun e=>(h.panes.cb e).ne c (by decide) rfl⟩
     have hkd:k<=d.Ps.length:=by rw [h.len];exact hle
     refine ⟨k,P,M,{ d with pv:=pv',Ps:=d.Ps.take k++(P,M) :: d.Ps.drop k },{ r with ps:=r.ps.take k++⟨f,l,[]⟩ :: r.ps.drop k },rfl,⟨rfl,rfl,rfl,hik,⟨⟨f,l,[]⟩,?_,rfl,rfl⟩,.inr ⟨hle,?_,hqk,rfl⟩⟩,?_,rfl,?_,?_,?_⟩
     . show (r.ps.take k++_ :: r.ps.drop k)[k]?=_
       rw [insAt' _ _ _ _ hle];simp
     . intro t q ht hq
       obtain ⟨P0,M0,-,hq0⟩:=qsOf_of h.len hq
       exact hF.less t _ ht hq0
     . refine ⟨hrun,?_,?_,?_,?_,?_,?_,?_,?_⟩
       . have e:((d.Ps.take k++(P,M) :: d.Ps.drop k).map fun p=>Value.pointer (some ⟨p.1,0,none⟩))=(ptrs (qsOf d r)).take k++.pointer (some ⟨P,0,none⟩) :: (ptrs (qsOf d r)).drop k:=by
          rw [ptrs_qs h.len,List.map_append,List.map_cons,List.map_take,List.map_drop]
         show Row w' _ 1 pv' _
         rw [e];exact hrow'
       . show (d.Ps.take k++(P,M) :: d.Ps.drop k).length=(r.ps.take k++_ :: r.ps.drop k).length
         rw [(ins_perm d.Ps k (P,M)).length_eq,(ins_perm r.ps k _).length_eq,List.length_cons,List.length_cons,h.len]
       . intro i P' M' p' h1 h2
         simp only at h1 h2
         rw [insAt' _ _ _ _ hkd] at h1
         rw [insAt' _ _ _ _ hle] at h2
         have old:∀ j,d.Ps[j]?=some (P',M')->r.ps[j]?=some p'->PaneAt w' P' M' p':=fun j h1 h2=>by
          have hm:=List.mem_of_getElem? h1
          obtain ⟨⟨a1,a2⟩,⟨a3,a4⟩⟩:=hpaneNe _ hm
          exact (h.each j P' M' p' h1 h2).congr (hbn P' (.inr (.inr (.inl ⟨_,hm,.inl rfl⟩))) a1 a2) (hbn M' (.inr (.inr (.inl ⟨_,hm,.inr rfl⟩))) a3 a4)
         by_cases hik':i < k
         . rw [if_pos hik'] at h1 h2
           exact old i h1 h2
         . rw [if_neg hik'] at h1 h2
           by_cases he:i=k
           . rw [if_pos he] at h1 h2
             simp only [Option.some.injEq,Prod.mk.injEq] at h1 h2
             obtain ⟨rfl,rfl⟩:=h1
             subst h2
             refine ⟨?_,0,by omega,mapMade hmap⟩
             rw [hpane,cntV_nil,sumV_nil];rfl
           . rw [if_neg he] at h1 h2
             exact old (i - 1) h1 h2
       . show ((d.Ps.take k++(P,M) :: d.Ps.drop k).map Prod.fst).Nodup
         rw [((ins_perm d.Ps k (P,M)).map Prod.fst).nodup_iff,List.map_cons,List.nodup_cons]
         refine ⟨fun hm=>?_,h.nodP⟩
         obtain ⟨q,hq,e⟩:=List.mem_map.1 hm
         have:=(hPs q hq).1
         omega
       . show ((d.Ps.take k++(P,M) :: d.Ps.drop k).map Prod.snd).Nodup
         rw [((ins_perm d.Ps k (P,M)).map Prod.snd).nodup_iff,List.map_cons,List.nodup_cons]
         refine ⟨fun hm=>?_,h.nodM⟩
         obtain ⟨q,hq,e⟩:=List.mem_map.1 hm
         have:=(hPs q hq).2
         omega
       . intro q hq
         rcases List.mem_cons.1 ((ins_perm d.Ps k (P,M)).mem_iff.1 hq) with rfl | hq
         . have:=hlt (d.b+2) (.inr (.inr (.inr (.inl (by omega)))))
           show M ≠ d.b+2
           omega
         . exact h.tcM q hq
       . show r.inside<=(r.ps.take k++_ :: r.ps.drop k).length
         rw [(ins_perm r.ps k _).length_eq,List.length_cons]
         have:=h.ins;omega
       . show PartsAt w' d.b d.cv d.gv ((r.ps.take k++_ :: r.ps.drop k).take r.inside)
         have e:(r.ps.take k++⟨f,l,[]⟩ :: r.ps.drop k).take r.inside=r.ps.take r.inside:=by
          rw [List.take_append,List.take_take,List.length_take,Nat.min_eq_left hle,Nat.min_eq_left hik,show r.inside - k=0 from by omega];simp
         rw [e]
         exact h.parts.congr (fun x hx=>hbn x (.inr (.inr (.inr hx))) (hpartNe x hx).1 (hpartNe x hx).2)
     . show (d.Ps.take k++(P,M) :: d.Ps.drop k)[k]?=_
       rw [insAt' _ _ _ _ hkd];simp
     . rintro x (hx | hx | ⟨q,hq,hx⟩ | hx)
       . exact .inl (.inl hx)
       . rcases hown x hx with h1 | h1
         . exact .inl (.inr (.inl h1))
         . exact .inr h1
       . rcases List.mem_cons.1 ((ins_perm d.Ps k (P,M)).mem_iff.1 hq) with rfl | hq
         . right;rcases hx with e | e <;> rw [e] <;> assumption
         . exact .inl (.inr (.inr (.inl ⟨q,hq,hx⟩)))
       . exact .inl (.inr (.inr (.inr hx)))
     . exact hkp.mono (fun b _ hb=>hb.elim (fun e=>.inl e) (fun e=>.inr (.inl e)))
end Go.Proofs.YtcfngdnmpogaoaaGreat
