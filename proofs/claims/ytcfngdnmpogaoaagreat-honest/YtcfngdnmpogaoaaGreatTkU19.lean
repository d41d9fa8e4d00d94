import Derived.Test.YtcfngdnmpogaoaaGreatTkU08
import Derived.Test.YtcfngdnmpogaoaaGreatTkU12
import Derived.Test.YtcfngdnmpogaoaaGreatTkT07
namespace Go.Proofs.YtcfngdnmpogaoaaGreat
open Go.RowKit Go.MuLone
set_option maxHeartbeats 6400000
set_option maxRecDepth 20000
structure RunOk (size:Int) (x:RunX):Prop where
 ne:x.r.ps ≠ []
 len:x.r.ps.length<=1000000000000
 wrap:∀ p ∈ x.r.ps,IntKind.i64.wrap (p.last+size)=p.last+size
structure EInv (w wr:World) (g B:Nat) (r:SCells) (gs es:List RunX) (k:Nat) (ev:Value):Prop where
 sf:SF wr g (r.setEnded ev)
 row:Row wr 150 1 ev (runPtrs (Rof (es++(gs.take k).filter fun x=>pastRun r.size r.lt x.r)))
 own:∀ b,ev.ownBlock=some b->r.ended.ownBlock=some b\/w.heap.size<=b
 box:wr.heap[B]?=some (.cells #[.pointer (some ⟨g,0,none⟩)] 44 (0,0))
 kept:Kept (fun b=>b=g\/r.ended.ownBlock=some b) w wr
theorem filter_take_succ' {α:Type} (xs:List α) (p:α->Bool) (j:Nat) (x:α) (h:xs[j]?=some x):(xs.take (j+1)).filter p=(xs.take j).filter p++(if p x then [x] else []):=by
 have hj:j < xs.length:=(List.getElem?_eq_some_iff.1 h).1
 have e:xs[j]=x:=(List.getElem?_eq_some_iff.1 h).2
 rw [List.take_succ_eq_append_getElem hj,e,List.filter_append]
 congr 1
 cases hp:p x <;> simp [hp]
theorem Rof_append (a b:List RunX):Rof (a++b)=Rof a++Rof b:=by simp [Rof]
theorem runPtrs_append (a b:List Nat):runPtrs (a++b)=runPtrs a++runPtrs b:=by simp [runPtrs]
theorem endRuns_any (g:Nat) (r:SCells) (gs es:List RunX) (w:World) (h:FlowAt w g r gs es) (hok:∀ x ∈ gs,RunOk r.size x) (hlg:gs.length+es.length<=1000000000000) :
 Calls Tryz.prog 112 #[.pointer (some ⟨g,0,none⟩)] w fun e w'=>e=.returned (.tuple #[])/\∃ ev gv,FlowAt w' g ((r.setEnded ev).setGoing gv) (gs.filter fun x=>!pastRun r.size r.lt x.r) (es++gs.filter fun x=>pastRun r.size r.lt x.r) /\
  (∀ b,gv.ownBlock=some b->r.going.ownBlock=some b)/\(∀ b,ev.ownBlock=some b->r.ended.ownBlock=some b\/w.heap.size<=b)/\Kept (fun b=>b=g\/r.going.ownBlock=some b\/r.ended.ownBlock=some b) w w':=by
 obtain ⟨i,hi,hz0,hz1,hz2⟩:=info_parts infoPR
 have hglt:=h.sf.lt
 have HFl:=hid h
 have HOk:=hid hok
 obtain ⟨ga,gc,hgv,hgc⟩:=h.going.slice
 rw [runPtrs_len,Rof,List.length_map] at hgv hgc
 have hgne:=h.gNe
 have HRun:Hid (∀ (W:World) x,x ∈ gs++es->Kept (fun b=>b=g\/r.going.ownBlock=some b\/r.ended.ownBlock=some b) w W->RunAt W x.d x.r):=fun W x hx hk=>(h.runs x hx).kept hk (fun k hf hh=>by
  have:=h.runNe hx hf
  rcases hh with e | e | e
  . exact this.1 e
  . exact this.2.1 e
  . exact this.2.2 e)
 have hEnd:Hid (∀ (W:World) (B:Nat) (ev:Value) x,x ∈ gs->Kept (fun b=>b=g\/r.going.ownBlock=some b\/r.ended.ownBlock=some b) w W->SF W g (r.setEnded ev)->W.cell? ⟨B,0,none⟩=some (.pointer (some ⟨g,0,none⟩))->Calls Tryz.prog 142 #[.pointer (some ⟨x.d.R,0,none⟩),.pointer (some ⟨B,0,none⟩)] W fun e w'=>e=.returned (.bool (pastRun r.size r.lt x.r))/\∃ m,w'=W.drewN m):=fun W B ev x hx hk hs hB=>ended_run g B (r.setEnded ev) x.d x.r W hs (HRun.out W x (by simp [hx]) hk) hB (HOk.out x hx).ne (HOk.out x hx).len (HOk.out x hx).wrap
 have B1:Below w.heap.size w (w.alloc (.cells #[.pointer (some ⟨g,0,none⟩)] 44)):=(Below.refl _ w).alloc (Nat.le_refl _) _
 have c48:(w.alloc (.cells #[.pointer (some ⟨g,0,none⟩)] 44)).cell? ⟨g,48,none⟩=some r.going:=(h.sf.below B1 hglt).tailAt 2 rfl
 have b1:(w.alloc (.cells #[.pointer (some ⟨g,0,none⟩)] 44)).cell? ⟨w.heap.size,0,none⟩=some (.pointer (some ⟨g,0,none⟩)):=by simp
 have b1':=heap_alloc_new w (.cells #[.pointer (some ⟨g,0,none⟩)] 44)
 have hE0:Hid (EInv w (w.alloc (.cells #[.pointer (some ⟨g,0,none⟩)] 44)) g w.heap.size r gs es 0 r.ended):=by
  refine ⟨h.sf.below B1 hglt,?_,fun b hb=>.inl hb,b1',Kept.ofBelow B1 _⟩
  simp only [List.take_zero,List.filter_nil,List.append_nil]
  exact h.ended.below B1 (fun k hk=>(h.ended.blk_lt hk).1)
 clear h hok b1'
 rw [hgv] at c48
 go_enter Tryz.func112,Tryz.ntmps112
 go_upto_region 1 with fail
 have hBg:¬ w.heap.size=g:=by omega
 have hgB:¬ g=w.heap.size:=by omega
 obtain ⟨B,HBe⟩:∃ B,Hid (w.heap.size=B):=⟨_,rfl⟩
 rw [HBe.out] at hBg hgB b1 hE0 ⊢
 generalize w.alloc (.cells #[.pointer (some ⟨g,0,none⟩)] 44)=W1 at *
 go_upto_block 0 with fail
 go_cut [11] from 11 to 28 (fun _ wx=>∃ ev,EInv w wx g B r gs es gs.length ev)
 case first=>
  go_wp2_with fail
  go_loopw [11] (fun sk wr=>∃ (k:Nat) (ev:Value),sk=.int .i64 (k:Int)/\k<=gs.length/\EInv w wr g B r gs es k ev) (fun sk _=>gs.length - (intOf sk).toNat)
  case atStart=>exact ⟨0,r.ended,rfl,Nat.zero_le _,hE0.out⟩
  case round=>
   clear hE0 c48 b1
   obtain ⟨k,ev,rfl,hk,hI⟩:=hrel
   have HI:=hid hI
   clear hI
   by_cases hlt:k < gs.length
   . have hx:gs[k]?=some gs[k]:=List.getElem?_eq_getElem hlt
     have hmem:gs[k] ∈ gs:=by simp
     generalize gs[k]=x at *
     have HX:=hid hx
     obtain ⟨gg,go,gn,gc',hv,-,-⟩:=HFl.out.going.shape (by rw [runPtrs];intro e;have:=congrArg List.length e;simp [Rof] at this;rw [this] at hlt;simp at hlt)
     rw [hgv] at hv
     simp only [Value.slice.injEq] at hv
     obtain ⟨rfl,rfl,rfl⟩:=hv
     have kp:Kept (fun b=>b=g\/r.going.ownBlock=some b\/r.ended.ownBlock=some b) w wr:=HI.out.kept.mono (fun b _ hb=>hb.elim .inl (fun e=>.inr (.inr e)))
     have hrowg:Row wr 150 1 r.going (runPtrs (Rof gs)):=HFl.out.going.kept HI.out.kept (fun b hb hh=>by
      rcases hh with e | e
      . subst e;exact hgne.1 hb
      . exact HFl.out.rows b hb e)
     have g0:wr.cell? ⟨gg,go+k,none⟩=some (.pointer (some ⟨x.d.R,0,none⟩)):=by
      rw [hgv] at hrowg
      have:=hrowg.cell k (by omega)
      rw [runPtrs,Rof,List.getElem?_map,List.getElem?_map,hx] at this;simpa using this
     have he:=hEnd.out wr B ev x hmem kp HI.out.sf (blkCell HI.out.box rfl)
     have HKp:=hid kp
     clear hx hrowg kp
     have hkn:(k:Int) < (gs.length:Int):=by omega
     have hwk:IntKind.i64.wrap ((k:Int)+1)=(k:Int)+1:=by rw [IntKind.wrap_i64];omega
     cases hp:pastRun r.size r.lt x.r with
     | false=>
       rw [hp] at he
       have HP:=hid hp
       clear hp
       go_wp2_with fail
       refine he.mono ?_
       rintro e W2 ⟨rfl,m2,hW2⟩
       have HW2:=hid hW2
       clear hW2 he g0
       go_wp2
       go_roundw
       case rel=>
        refine ⟨k+1,ev,by go_num,by omega,⟨by rw [HW2.out];exact HI.out.sf.congr (by simp),?_,HI.out.own,by rw [HW2.out];simpa using HI.out.box,by rw [HW2.out];exact HI.out.kept.drewN m2⟩⟩
        rw [filter_take_succ' gs _ k x HX.out,HP.out]
        simp only [Bool.false_eq_true,if_false,List.append_nil]
        exact HI.out.row.congr (fun b _=>by rw [HW2.out];simp)
       case measure=>simp [intOf];omega
     | true=>
       rw [hp] at he
       have HP:=hid hp
       clear hp
       go_wp2_with fail
       refine he.mono ?_
       rintro e W2 ⟨rfl,m2,hW2⟩
       have hs2:SF W2 g (r.setEnded ev):=by rw [hW2];exact HI.out.sf.congr (by simp)
       have hx2:W2.heap[B]?=some (.cells #[.pointer (some ⟨g,0,none⟩)] 44 (0,0)):=by rw [hW2];simpa using HI.out.box
       have b2:W2.cell? ⟨B,0,none⟩=some (.pointer (some ⟨g,0,none⟩)):=blkCell hx2 rfl
       have HX2:=hid hx2
       have r2:Row W2 150 1 ev (runPtrs (Rof (es++(gs.take k).filter fun x=>pastRun r.size r.lt x.r))):=HI.out.row.congr (fun b _=>by rw [hW2];simp)
       have k2:Kept (fun b=>b=g\/r.ended.ownBlock=some b) w W2:=by rw [hW2];exact HI.out.kept.drewN m2
       have HK2:=hid k2
       have HS2:=hid hs2
       clear hW2 he g0 k2 hs2 hx2
       have fz:∀ j,W2.frozen? ⟨g,j,none⟩=false:=HS2.out.frozen
       have c49:W2.cell? ⟨g,49,none⟩=some ev:=HS2.out.tailAt 3 rfl
       have hll:(Rof (es++(gs.take k).filter fun x=>pastRun r.size r.lt x.r)).length<=1000000000000:=by
        rw [Rof,List.length_map,List.length_append]
        have:=List.length_filter_le (fun x:RunX=>pastRun r.size r.lt x.r) (gs.take k)
        rw [List.length_take] at this
        omega
       generalize hL:Rof (es++(gs.take k).filter fun x=>pastRun r.size r.lt x.r)=L at *
       have HL:=hid hL
       clear hL
       obtain ⟨ea,ec,hev,-⟩:=r2.slice
       rw [runPtrs_len] at hev
       have hgW:=HS2.out.lt
       have hBW:B < W2.heap.size:=World.block_lt_of_cell? W2 ⟨B,0,none⟩ b2
       have HR2:=hid r2
       rw [hev] at c49
       have hrA:Hid (∀ o,Row (W2.alloc o).drew 150 1 (.slice ea L.length ec) (runPtrs L)):=fun o=>by rw [<- hev];exact (HR2.out.alloc o).congr (fun _ _=>rfl)
       have hegne:∀ b,(Value.slice ea L.length ec).ownBlock=some b->b ≠ g/\b ≠ B/\b < W2.heap.size:=fun b hb=>by
        rw [<- hev] at hb
        have hcb:=HR2.out.cb hb
        exact ⟨hcb.ne (Cb.of HS2.out.blk) (by decide),hcb.ne (Cb.of HX2.out) (by decide),hcb.lt⟩
       have c49A:∀ o,(W2.alloc o).cell? ⟨g,49,none⟩=some (.slice ea L.length ec):=fun o=>by rw [((Below.refl W2.heap.size W2).alloc (Nat.le_refl _) o).cell hgW];exact c49
       have b2A:∀ o,(W2.alloc o).cell? ⟨B,0,none⟩=some (.pointer (some ⟨g,0,none⟩)):=fun o=>by rw [((Below.refl W2.heap.size W2).alloc (Nat.le_refl _) o).cell hBW];exact b2
       clear r2
       go_wp2_with fail
       go_region_law (first
        | (refine step_append rfl _ _ _ _ rfl 150 i (.pointer none) 1 8 Tryz.underlying108 hi hz0 hz1 hz2 rfl Nat.one_pos (.slice ea L.length ec) (runPtrs L) rfl (hrA.out _) (.slice (some ⟨W2.heap.size,0,none⟩) 1 1) 1 [.pointer (some ⟨x.d.R,0,none⟩)] rfl ?_ Nat.one_pos ?_ ?_ ?_;exact Src.ofSlice _ Tryz.underlying108 ⟨W2.heap.size,0,none⟩ 1 1 _ rfl (one_new W2 _ _) (by simp [Value.oneCell']);(rw [runPtrs_len];simp only [maxLen];omega);(rw [runPtrs_len];omega);intro ev2 w3 ha;have kA:Kept (fun b=>(Value.slice ea L.length ec).ownBlock=some b) W2 w3:=((((Kept.refl _ W2).alloc _).drew).step (Kept.ofGrown ha.grown) (fun _ _ h=>h));have hrow3:=ha.row;obtain ⟨vg,vo,vn,vc,hgs,-,-⟩:=hrow3.shape (by simp);subst hgs;have hev3:∀ b,(Value.slice (some ⟨vg,vo,none⟩) vn vc).ownBlock=some b->(Value.slice ea L.length ec).ownBlock=some b\/W2.heap.size<=b:=(fun b hb=>by rcases ha.step with ⟨h1,_⟩ | ⟨h1,_⟩;(left;rw [<- h1];exact hb);(right;rw [h1] at hb;simp only [Option.some.injEq] at hb;simp at hb;omega));have hs4:=HS2.out.congr (kA.block g hgW (fun e=>(hegne g e).1 rfl));have e49:w3.cell? ⟨g,49,none⟩=some ev:=hs4.tailAt 3 rfl;rw [hev] at e49;have ef:∀ j,w3.frozen? ⟨g,j,none⟩=false:=hs4.frozen;have xB:w3.heap[B]?=some (.cells #[.pointer (some ⟨g,0,none⟩)] 44 (0,0)):=(kA.block B hBW (fun e=>(hegne B e).2.1 rfl)).trans HX2.out;have e0:w3.cell? ⟨B,0,none⟩=some (.pointer (some ⟨g,0,none⟩)):=blkCell xB rfl))
       all_goals
        have HSF:Hid (SF (w3.setCell ⟨g,49,none⟩ (.slice (some ⟨vg,vo,none⟩) vn vc)) g (r.setEnded (.slice (some ⟨vg,vo,none⟩) vn vc))):=hs4.putEnded _
        have HROW:Hid (Row (w3.setCell ⟨g,49,none⟩ (.slice (some ⟨vg,vo,none⟩) vn vc)) 150 1 (.slice (some ⟨vg,vo,none⟩) vn vc) (runPtrs L++[.pointer (some ⟨x.d.R,0,none⟩)])):=hrow3.setCell ⟨g,49,none⟩ _ (fun e=>by rcases hev3 g e with h1 | h1;exact (hegne g h1).1 rfl;omega)
        have HBX:Hid ((w3.setCell ⟨g,49,none⟩ (.slice (some ⟨vg,vo,none⟩) vn vc)).heap[B]?=some (.cells #[.pointer (some ⟨g,0,none⟩)] 44 (0,0))):=blkOther xB g 49 _ hBg
        have HKK:Hid (Kept (fun b=>b=g\/r.ended.ownBlock=some b) w (w3.setCell ⟨g,49,none⟩ (.slice (some ⟨vg,vo,none⟩) vn vc))):=by
         refine Kept.setCell (HK2.out.step kA (fun b hb he=>?_)) ⟨g,49,none⟩ _ (fun _=>.inl rfl)
         rcases HI.out.own b (by rw [hev];exact he) with h1 | h1
         . exact .inr h1
         . omega
        have HOW:Hid (∀ b,(Value.slice (some ⟨vg,vo,none⟩) vn vc).ownBlock=some b->r.ended.ownBlock=some b\/w.heap.size<=b):=fun b hb=>by
         rcases hev3 b hb with h1 | h1
         . exact HI.out.own b (by rw [hev];exact h1)
         . exact .inr (by have:=HK2.out.size;omega)
        clear hs4 hrow3 xB e49 ef e0 kA ha hev3 c49A b2A
        go_wp2
        go_roundw
        case rel=>
         refine ⟨k+1,.slice (some ⟨vg,vo,none⟩) vn vc,by go_num,by omega,⟨HSF.out,?_,HOW.out,HBX.out,HKK.out⟩⟩
         rw [filter_take_succ' gs _ k x HX.out,HP.out]
         simp only [if_true]
         rw [<- List.append_assoc,Rof_append,HL.out,runPtrs_append]
         exact HROW.out
        case measure=>simp [intOf];omega
   . have hke:k=gs.length:=by omega
     subst hke
     go_wp2
     go_meet
     exact ⟨ev,HI.out⟩
 case rest=>
  obtain ⟨ev,hI⟩:=hcut
  have HI:=hid hI
  clear hI hE0 c48 b1
  have hrowg:Row wc 150 1 r.going (runPtrs (Rof gs)):=HFl.out.going.kept HI.out.kept (fun b hb hh=>by
   rcases hh with e | e
   . subst e;exact hgne.1 hb
   . exact HFl.out.rows b hb e)
  have hgd:(Rof gs).Nodup:=Rof_nodup (List.pairwise_append.1 HFl.out.disj).1
  have hq:∀ x ∈ gs,(gs.any fun y=>decide (y.d.R=x.d.R) && pastRun r.size r.lt y.r)=pastRun r.size r.lt x.r:=fun x hx=>by
   rw [Bool.eq_iff_iff,List.any_eq_true]
   constructor
   . rintro ⟨y,hy,e⟩
     simp only [Bool.and_eq_true,decide_eq_true_eq] at e
     have:=nodup_inj hgd hy hx e.1
     subst this;exact e.2
   . intro e
     exact ⟨x,hx,by simp [e]⟩
  have hfil:(Rof gs).filter (fun R=>!(gs.any fun y=>decide (y.d.R=R) && pastRun r.size r.lt y.r))=Rof (gs.filter fun x=>!pastRun r.size r.lt x.r):=by
   have key:∀ l:List RunX,(∀ x ∈ l,x ∈ gs)->(Rof l).filter (fun R=>!(gs.any fun y=>decide (y.d.R=R) && pastRun r.size r.lt y.r))=Rof (l.filter fun x=>!pastRun r.size r.lt x.r):=by
    intro l
    induction l with
    | nil=>intro _;rfl
    | cons a l ih=>
      intro hl
      have h1:=hq a (hl a (by simp))
      have h2:=ih (fun x hx=>hl x (by simp [hx]))
      simp only [Rof,List.map_cons] at h2 ⊢
      rw [List.filter_cons,List.filter_cons,h1,h2]
      cases pastRun r.size r.lt a.r <;> rfl
   exact key gs (fun x hx=>hx)
  have hdel:=deleteFunc_any B (Rof gs) (fun R=>gs.any fun y=>decide (y.d.R=R) && pastRun r.size r.lt y.r) r.going wc.drew (hrowg.congr (fun _ _=>rfl)) (by rw [Rof,List.length_map];omega) (fun W R hR hkW=>by
   obtain ⟨x,hx,rfl⟩:=List.mem_map.1 hR
   simp only [hq x hx]
   have hgW:W.heap[g]?=wc.heap[g]?:=hkW.block g (by show g < wc.heap.size;exact HI.out.sf.lt) hgne.1
   have hBW:W.heap[B]?=wc.heap[B]?:=hkW.block B (by show B < wc.heap.size;exact blkLt HI.out.box) (fun e=>(hrowg.cb e).ne (Cb.of HI.out.box) (by decide) rfl)
   refine hEnd.out W B ev x hx ?_ (HI.out.sf.congr hgW) (blkCell (hBW.trans HI.out.box) rfl)
   have k1:Kept (fun b=>b=g\/r.going.ownBlock=some b\/r.ended.ownBlock=some b) w wc.drew:=(HI.out.kept.mono (fun b _ hb=>hb.elim .inl (fun e=>.inr (.inr e)))).drew
   exact k1.step hkW (fun b _ hb=>.inr (.inl hb)))
  rw [hfil] at hdel
  have HD:=hid hdel
  have hrB:r.going.ownBlock ≠ some B:=fun e=>(hrowg.cb e).ne (Cb.of HI.out.box) (by decide) rfl
  clear hdel hfil hq hrowg
  have c48':wc.cell? ⟨g,48,none⟩=some r.going:=HI.out.sf.tailAt 2 rfl
  have hbx:wc.cell? ⟨B,0,none⟩=some (.pointer (some ⟨g,0,none⟩)):=blkCell HI.out.box rfl
  have fz':∀ j,wc.frozen? ⟨g,j,none⟩=false:=HI.out.sf.frozen
  have hgw:=HI.out.sf.lt
  have hBw:=blkLt HI.out.box
  rw [hgv] at c48'
  rw [hgv] at HD
  go_wp2_with fail
  go_region_law (first
   | (refine step_call2 rfl 143 _ _ _ rfl enterDel (.slice ga gs.length gc) (.func (.func 142) #[] #[.pointer (some ⟨B,0,none⟩)]) rfl rfl _ HD.out ?_;rintro e w3 ⟨gv,rfl,hr3,ho3,hk3⟩;refine ⟨_,rfl,?_⟩;obtain ⟨va,vc,hvs,-⟩:=hr3.slice;generalize hVN:(runPtrs (Rof (gs.filter fun x=>!pastRun r.size r.lt x.r))).length=VN at hvs;subst hvs;have hs5:SF w3 g (r.setEnded ev):=HI.out.sf.congr ((hk3.block g hgw (by rw [<- hgv];exact hgne.1)):w3.heap[g]?=wc.heap[g]?);have c5:w3.cell? ⟨g,48,none⟩=some r.going:=hs5.tailAt 2 rfl;rw [hgv] at c5;have f5:∀ j,w3.frozen? ⟨g,j,none⟩=false:=hs5.frozen;have x5:w3.heap[B]?=some (.cells #[.pointer (some ⟨g,0,none⟩)] 44 (0,0)):=(hk3.block B hBw (by rw [<- hgv];exact hrB)).trans HI.out.box;have y5:w3.cell? ⟨B,0,none⟩=some (.pointer (some ⟨g,0,none⟩)):=blkCell x5 rfl))
  all_goals
   go_end0
   have hev:∀ b,ev.ownBlock=some b->b ≠ g/\(Value.slice ga gs.length gc).ownBlock ≠ some b:=fun b hb=>by
    refine ⟨(HI.out.row.cb hb).ne (Cb.of HI.out.sf.blk) (by decide),fun e=>?_⟩
    rw [<- hgv] at e
    rcases HI.out.own b hb with h1 | h1
    . exact HFl.out.rows b e h1
    . have:=(HFl.out.going.blk_lt e).1;omega
   have kAll:Kept (fun b=>b=g\/r.going.ownBlock=some b\/r.ended.ownBlock=some b) w (w3.setCell ⟨g,48,none⟩ (.slice va VN vc)):=by
    have k1:Kept (fun b=>b=g\/r.going.ownBlock=some b\/r.ended.ownBlock=some b) w wc.drew:=(HI.out.kept.mono (fun b _ hb=>hb.elim .inl (fun e=>.inr (.inr e)))).drew
    exact (k1.step hk3 (fun b _ hb=>.inr (.inl (by rw [hgv];exact hb)))).setCell ⟨g,48,none⟩ _ (fun _=>.inl rfl)
   have hperm:((gs.filter fun x=>!pastRun r.size r.lt x.r)++(es++gs.filter fun x=>pastRun r.size r.lt x.r)).Perm (gs++es):=by
    have h1:=List.filter_append_perm (fun x:RunX=>pastRun r.size r.lt x.r) gs
    refine (List.Perm.append_left _ List.perm_append_comm).trans ?_
    rw [<- List.append_assoc]
    exact List.Perm.append_right es (List.perm_append_comm.trans h1)
   refine ⟨rfl,ev,.slice va VN vc,⟨hs5.putGoing _,?_,?_,fun b hb he=>?_,fun x hx=>HRun.out _ x (hperm.mem_iff.1 hx) kAll,?_⟩,fun b hb=>by rw [hgv];exact ho3 b hb,HI.out.own,kAll⟩
   . exact hr3.setCell ⟨g,48,none⟩ _ (fun e=>hgne.1 (by rw [hgv];exact ho3 g e))
   . have hrow:=HI.out.row
     rw [List.take_length] at hrow
     refine Row.setCell ?_ ⟨g,48,none⟩ _ (fun e=>(hev g e).1 rfl)
     exact hrow.congr (fun b hb=>hk3.block b (hrow.blk_lt hb).1 (hev b hb).2)
   . exact (hev b he).2 (ho3 b hb)
   . exact (hperm.pairwise_iff (fun {x y} h=>Apart.symm h)).2 HFl.out.disj
end Go.Proofs.YtcfngdnmpogaoaaGreat
namespace Go.Proofs.YtcfngdnmpogaoaaGreat
open Go.RowKit Go.MuLone
variable {F:Nat->Prop} {g:Nat} {lk:Int} {st:St} {us:List Value} {w w':World}
theorem FlowAt.noBytes {r:SCells} {gs es:List RunX} (h:FlowAt w g r gs es) {k:Nat} (hk:flowFoot g r gs es k) {c:Array Value} {f:Nat × Nat}:w.heap[k]? ≠ some (.cells c 5 f):=by
 intro hc
 have hcb:∀ t,Cb w k t->t ≠ 5->False:=fun t ⟨c',h'⟩ ht=>by
  rw [hc] at h'
  simp only [Option.some.injEq,Obj.cells.injEq] at h'
  exact ht h'.2.1.symm
 rcases hk with rfl | hk | hk | ⟨x,hx,hk⟩
 . exact hcb _ (Cb.of h.sf.blk) (by decide)
 . exact hcb _ (h.going.cb hk) (by decide)
 . exact hcb _ (h.ended.cb hk) (by decide)
 . rcases (h.runs x hx).kinds hk with ⟨a,b,h1⟩ | ⟨t,h1,h2⟩
   . rw [hc] at h1;cases h1
   . exact hcb _ h1 (by intro e;subst e;exact absurd h2 (by decide))
theorem FlowAt.bytes8 {r:SCells} {gs es:List RunX} (h:FlowAt w g r gs es) (hk:Kept (flowFoot g r gs es) w w'):Bytes8 w w':=fun k c f hc=>by
 rw [hk.block k (Array.getElem?_eq_some_iff.1 hc).1 (fun e=>h.noBytes e hc)];exact hc
def FlowIs (w:World) (g:Nat) (lk:Int) (st:St) (us:List Value) (F:Nat->Prop):Prop:=∃ r gs es,FlowAt w g r gs es/\stOf r gs es=st/\r.lk=lk/\r.src.map SSrc.unread=us/\∀ k,flowFoot g r gs es k->F k
def Grown (F:Nat->Prop) (w:World) (k:Nat):Prop:=F k\/w.heap.size<=k
theorem FlowIs.mono {F':Nat->Prop} (h:FlowIs w g lk st us F) (hF:∀ k,F k->F' k):FlowIs w g lk st us F':=by
 obtain ⟨r,gs,es,h1,h2,h3,h4,h5⟩:=h
 exact ⟨r,gs,es,h1,h2,h3,h4,fun k hk=>hF k (h5 k hk)⟩
theorem FlowIs.below (h:FlowIs w g lk st us F) (hb:Below w.heap.size w w'):FlowIs w' g lk st us F:=by
 obtain ⟨r,gs,es,h1,h2,h3,h4,h5⟩:=h
 exact ⟨r,gs,es,h1.below hb,h2,h3,h4,h5⟩
theorem FlowIs.kept {X:Nat->Prop} (h:FlowIs w g lk st us F) (hk:Kept X w w') (hX:∀ k,F k->¬ X k):FlowIs w' g lk st us F:=by
 obtain ⟨r,gs,es,h1,h2,h3,h4,h5⟩:=h
 exact ⟨r,gs,es,h1.congr (fun k hf=>hk.block k (h1.lt hf) (hX k (h5 k hf))),h2,h3,h4,h5⟩
def SrcFits (l:List SrcS):Prop:=∀ s ∈ l,-2305843009213693952<=s.time/\s.time<=2305843009213693952
theorem rsOf_filter (xs:List RunX) (p:RunS->Bool):rsOf (xs.filter fun x=>p x.r)=(rsOf xs).filter p:=by
 unfold rsOf
 induction xs with
 | nil=>rfl
 | cons x xs ih=>
   simp only [List.filter_cons,List.map_cons]
   cases p x.r <;> simp [ih]
theorem rsOf_append (a b:List RunX):rsOf (a++b)=rsOf a++rsOf b:=by simp [rsOf]
theorem moved_lt (r:SCells) (h:(leastF r.src).2=true):r.moved.lt=(lineF r.late (r.src.map srcS) r.lt r.li).1/\r.moved.li=true:=by
 unfold SCells.moved lineF
 rw [<- leastF_S,h]
 simp only [if_true]
 by_cases hup:r.li=false\/r.lt < (leastF r.src).1 - r.late
 . rw [if_pos hup,if_pos hup];exact ⟨rfl,rfl⟩
 . rw [if_neg hup,if_neg hup]
   refine ⟨rfl,?_⟩
   cases hl:r.li with
   | true=>rfl
   | false=>exact absurd (.inl hl) hup
theorem moved_rest (r:SCells):r.moved.size=r.size/\r.moved.slide=r.slide/\r.moved.keys=r.keys/\r.moved.ended=r.ended:=by
 unfold SCells.moved;(repeat' split) <;> exact ⟨rfl,rfl,rfl,rfl⟩
theorem Mod.lens {E:List Ev} {T:Option Int} (h:Mod st E T):st.gs.length+st.es.length<=E.length:=by
 have h1:=runs_le (st.es++st.gs) (fun r hr=>⟨(h.good r hr).ne,fun p hp=>((h.good r hr).pane p hp).1⟩)
 have h2:=h.runLen
 rw [List.length_append] at h1
 omega
theorem moveLine_flow (g:Nat) (lk:Int) (st:St) (us:List Value) (F:Nat->Prop) (E:List Ev) (T:Option Int) (w:World) (h:FlowIs w g lk st us F) (hm:Mod st E T) (hf:SrcFits st.src) (hE:E.length<=100000000) :
 Calls Tryz.prog 77 #[.pointer (some ⟨g,0,none⟩)] w fun e w'=>e=.returned (.tuple #[])/\FlowIs w' g lk st.moved us (Grown F w)/\Kept F w w'/\Bytes8 w w':=by
 obtain ⟨r,gs,es,h1,rfl,rfl,rfl,h5⟩:=h
 have hfit:r.Fits:=⟨fun s hs=>hf (srcS s) (List.mem_map_of_mem hs),hm.conf.l1,hm.conf.l2⟩
 have hlen:=hm.lens
 have hlens:gs.length+es.length<=1000000000000:=by
  simp only [stOf,rsOf,List.length_map] at hlen;omega
 refine moveLine_of g r w h1.sf (fun k=>k=g) rfl _ (fun w' h2 h3 h4=>?_) hfit.wrap (fun W h2 h3 h4=>?_)
 . have hk:Kept (flowFoot g r gs es) w w':=h3.mono (fun k _ e=>.inl e)
   refine ⟨⟨r,gs,es,h1.turn h3 h2 rfl rfl,?_,rfl,rfl,fun k hk=>.inl (h5 k hk)⟩,hk.mono (fun k _ e=>h5 k e),h1.bytes8 hk⟩
   unfold St.moved
   rw [if_neg]
   show ¬ (leastS (r.src.map srcS)).2=true
   rw [<- leastF_S,h4];simp
 . have h2':=h1.turn h3 h2 r.moved_going (moved_rest r).2.2.2
   have hk:Kept (flowFoot g r gs es) w W:=h3.mono (fun k _ e=>.inl e)
   refine (endRuns_any g r.moved gs es W h2' (fun x hx=>?_) hlens).mono ?_
   . have:=hm.runOk hE (r:=x.r) (List.mem_append_right _ (List.mem_map_of_mem hx))
     rw [(moved_rest r).1]
     exact ⟨this.1,by omega,this.2.2.2⟩
   . rintro e w' ⟨rfl,ev,gv,h6,h7,h8,h9⟩
     rw [r.moved_going,(moved_rest r).2.2.2] at h9
     rw [r.moved_going] at h7
     rw [(moved_rest r).2.2.2] at h8
     have hk2:Kept (flowFoot g r gs es) w w':=hk.step h9 (fun k _ e=>by
      rcases e with e | e | e
      . exact .inl e
      . exact .inr (.inl e)
      . exact .inr (.inr (.inl e)))
     refine ⟨rfl,⟨_,_,_,h6,?_,r.moved_lk,by show r.moved.src.map _=_;rw [r.moved_src],fun k hk=>?_⟩,hk2.mono (fun k _ e=>h5 k e),h1.bytes8 hk2⟩
     . obtain ⟨m1,m2⟩:=moved_lt r h4
       obtain ⟨q1,q2,q3,q4⟩:=moved_rest r
       unfold St.moved
       rw [if_pos (show (leastS (stOf r gs es).src).2=true by show (leastS (r.src.map srcS)).2=true;rw [<- leastF_S];exact h4)]
       unfold stOf St.setLine SCells.setGoing SCells.setEnded
       simp only [q1,q2,q3,m2,r.moved_src,r.moved_late,r.moved_n,rsOf_append]
       rw [m1,rsOf_filter gs (fun x=>!pastRun r.size _ x),rsOf_filter gs (fun x=>pastRun r.size _ x)]
     . rcases hk with hk | hk | hk | ⟨x,hx,hk⟩
       . exact .inl (h5 k (.inl hk))
       . exact .inl (h5 k (.inr (.inl (h7 k hk))))
       . rcases h8 k hk with h8 | h8
         . exact .inl (h5 k (.inr (.inr (.inl h8))))
         . exact .inr (by have:=h3.size;omega)
       . refine .inl (h5 k (.inr (.inr (.inr ⟨x,?_,hk⟩))))
         simp only [List.mem_append,List.mem_filter] at hx ⊢
         rcases hx with hx | hx | hx
         . exact .inl hx.1
         . exact .inr hx
         . exact .inl hx.1
end Go.Proofs.YtcfngdnmpogaoaaGreat
namespace Go.Proofs.YtcfngdnmpogaoaaGreat
open Go.RowKit Go.MuLone
variable {F:Nat->Prop} {T:Option Int} {c:Cf} {g:Nat} {lk:Int} {sp:Sp} {us:List Value} {w:World}
def FlowSp (w:World) (g:Nat) (lk:Int) (c:Cf) (sp:Sp) (us:List Value) (F:Nat->Prop) (T:Option Int):Prop:=
 ∃ st,FlowIs w g lk st us F/\Mod st sp.E T/\SrcFits sp.src/\spOf st sp.E=sp/\cfOf st=c
theorem FlowSp.mono {F':Nat->Prop} (h:FlowSp w g lk c sp us F T) (hF:∀ k,F k->F' k):FlowSp w g lk c sp us F' T:=by
 obtain ⟨st,h1,h2⟩:=h;exact ⟨st,h1.mono hF,h2⟩
theorem FlowSp.below {w':World} (h:FlowSp w g lk c sp us F T) (hb:Below w.heap.size w w'):FlowSp w' g lk c sp us F T:=by
 obtain ⟨st,h1,h2⟩:=h;exact ⟨st,h1.below hb,h2⟩
theorem FlowSp.kept {w':World} {X:Nat->Prop} (h:FlowSp w g lk c sp us F T) (hk:Kept X w w') (hX:∀ k,F k->¬ X k):FlowSp w' g lk c sp us F T:=by
 obtain ⟨st,h1,h2⟩:=h;exact ⟨st,h1.kept hk hX,h2⟩
theorem moved_sp (st:St) (E:List Ev):spOf st.moved E=(spOf st E).line (cfOf st)/\cfOf st.moved=cfOf st:=by
 unfold St.moved Sp.line
 by_cases h:(leastS st.src).2=true
 . rw [if_pos h]
   have:(lineF (cfOf st).late (spOf st E).src (spOf st E).lt (spOf st E).li).2=true:=by
    unfold lineF
    rw [if_pos (show (leastS (spOf st E).src).2=true from h)]
   exact ⟨by rw [this];rfl,rfl⟩
 . rw [if_neg h]
   have:lineF (cfOf st).late (spOf st E).src (spOf st E).lt (spOf st E).li=(st.lt,st.li):=by
    unfold lineF
    rw [if_neg (show ¬ (leastS (spOf st E).src).2=true from h)];rfl
   exact ⟨by rw [this];rfl,rfl⟩
theorem moveLine_sp (g:Nat) (lk:Int) (c:Cf) (sp:Sp) (us:List Value) (F:Nat->Prop) (T:Option Int) (w:World) (h:FlowSp w g lk c sp us F T) (hE:sp.E.length<=100000000) :
 Calls Tryz.prog 77 #[.pointer (some ⟨g,0,none⟩)] w fun e w'=>e=.returned (.tuple #[])/\FlowSp w' g lk c (sp.line c) us (Grown F w) T/\Kept F w w'/\Bytes8 w w':=by
 obtain ⟨st,h1,h2,h3,h4,h5⟩:=h
 have hsrc:st.src=sp.src:=congrArg Sp.src h4
 refine (moveLine_flow g lk st us F sp.E T w h1 h2 (by rw [hsrc];exact h3) hE).mono ?_
 rintro e w' ⟨rfl,h6,h7,h8⟩
 obtain ⟨e1,e2⟩:=moved_sp st sp.E
 refine ⟨rfl,⟨st.moved,h6,h2.moved,h3,?_,e2.trans h5⟩,h7,h8⟩
 show spOf st.moved sp.E=_
 rw [e1,h4,h5]
theorem raised_fits {l:List SrcS} (h:SrcFits l) (n:Nat) (t:Int) (h1:-2305843009213693952<=t) (h2:t<=2305843009213693952):SrcFits (l.modify n (raisedS t)):=fun s hs=>by
 obtain ⟨i,hi,rfl⟩:=List.mem_iff_getElem.1 hs
 rw [List.getElem_modify]
 have hi':i < l.length:=by simpa using hi
 have:=h l[i] (by simp)
 split
 . unfold raisedS
   split
   . exact ⟨h1,h2⟩
   . exact this
 . exact this
theorem do_mark_sp (g n:Nat) (lk:Int) (c:Cf) (sp:Sp) (us:List Value) (F:Nat->Prop) (T:Option Int) (key:ByteArray) (t v tag:Int) (w:World) (h:FlowSp w g lk c sp us F T) (hn:n < sp.src.length) (hE:sp.E.length<=100000000) :
 Calls Tryz.prog 72 #[.pointer (some ⟨g,0,none⟩),.pointer (some ⟨g,6+n*5,none⟩),itemV 2 key t v tag] w fun e w'=>e=.returned (.tuple #[])/\FlowSp w' g lk c ((sp.mark0 n t).line c) us (Grown F w) T/\Kept F w w'/\Bytes8 w w':=by
 obtain ⟨st,⟨r,gs,es,h1,rfl,rfl,rfl,h5⟩,h2,h3,h4,rfl⟩:=h
 have hsrc:r.src.map srcS=sp.src:=congrArg Sp.src h4
 obtain ⟨s,hs⟩:∃ s,r.src[n]?=some s:=⟨r.src[n]'(by rw [<- hsrc,List.length_map] at hn;exact hn),List.getElem?_eq_getElem _⟩
 have hun:(r.src.set n (s.raised (clampT t))).map SSrc.unread=r.src.map SSrc.unread:=by
  refine List.ext_getElem? (fun i=>?_)
  rw [List.getElem?_map,List.getElem?_set,List.getElem?_map]
  by_cases hi:n=i
  . subst hi
    have hl:n < r.src.length:=(List.getElem?_eq_some_iff.1 hs).1
    have hsame:(s.raised (clampT t)).unread=s.unread:=by unfold SSrc.raised;split <;> rfl
    rw [if_pos rfl,if_pos hl,hs];simp [hsame]
  . simp [hi]
 refine do_mark_of g n r s key t v tag w h1.sf hs _ (fun W h6 k6=>?_)
 have hk6:Kept (flowFoot g r gs es) w W:=k6.mono (fun k _ e=>.inl e)
 have hmod:Mod (stOf (r.addMark.setSrc n (s.raised (clampT t))) gs es) sp.E T:=h2.congr rfl rfl rfl rfl rfl rfl rfl rfl
 have hsp:spOf (stOf (r.addMark.setSrc n (s.raised (clampT t))) gs es) sp.E=sp.mark0 n t:=by
  rw [<- h4]
  unfold spOf Sp.mark0 Sp.raise stOf
  simp only [Sp.mk.injEq,true_and]
  exact ⟨src_set r.src n s _ _ hs (srcS_raised s _),rfl,rfl,rfl⟩
 refine (moveLine_sp g r.lk (cfOf (stOf r gs es)) (sp.mark0 n t) (r.src.map SSrc.unread) F T W ⟨_,⟨_,gs,es,h1.turn k6 h6 rfl rfl,rfl,rfl,hun,fun k hk=>h5 k ?_⟩,hmod,raised_fits h3 n _ (clampT_fits t).1 (clampT_fits t).2,hsp,rfl⟩ hE).mono ?_
 . rcases hk with hk | hk | hk | hk
   . exact .inl hk
   . exact .inr (.inl hk)
   . exact .inr (.inr (.inl hk))
   . exact .inr (.inr (.inr hk))
 . rintro e w' ⟨rfl,h7,h8,h9⟩
   refine ⟨rfl,h7.mono (fun k hk=>?_),(hk6.mono (fun k _ e=>h5 k e)).trans h8,(h1.bytes8 hk6).trans h9⟩
   rcases hk with hk | hk
   . exact .inl hk
   . exact .inr (by have:=k6.size;omega)
theorem event0_len (c:Cf) (sp:Sp) (n:Nat) (e:Ev):(sp.event0 c n e).E.length<=sp.E.length+1:=by
 unfold Sp.event0 Sp.raise
 (repeat' split) <;> simp
theorem event0_fits (c:Cf) (sp:Sp) (n:Nat) (e:Ev) (h:SrcFits sp.src):SrcFits (sp.event0 c n e).src:=by
 unfold Sp.event0 Sp.raise
 by_cases ho:outB e=true
 . rw [if_pos ho];exact h
 . rw [if_neg ho]
   have ho':¬ evOut e:=fun hh=>ho ((outB_iff e).2 hh)
   unfold evOut at ho'
   have hr:=raised_fits h n e.t (by omega) (by omega)
   split
   . exact hr
   . split
     . exact h
     . exact hr
theorem do_event_sp (g n:Nat) (lk:Int) (c:Cf) (sp:Sp) (us:List Value) (F:Nat->Prop) (T:Option Int) (e:Ev) (w:World) (h:FlowSp w g lk c sp us F T) (hn:n < sp.src.length) (he:e.fits) (hE:sp.E.length < 100000000) :
 Calls Tryz.prog 72 #[.pointer (some ⟨g,0,none⟩),.pointer (some ⟨g,6+n*5,none⟩),evItem e] w fun en w'=>en=.returned (.tuple #[])/\FlowSp w' g lk c ((sp.event0 c n e).line c) us (Grown F w) T/\Kept F w w'/\Bytes8 w w':=by
 have hlen:=event0_len c sp n e
 refine do_event_of g _ e.key e.t e.v e.tag w (fun W=>FlowSp W g lk c (sp.event0 c n e) us (Grown F w) T/\Kept F w W/\Bytes8 w W) _ (fun W hb=>?_) (fun W hP=>?_)
 . obtain ⟨st,⟨r,gs,es,h1,rfl,rfl,rfl,h5⟩,h2,h3,h4,rfl⟩:=h.below hb
   have hsrc:r.src.map srcS=sp.src:=congrArg Sp.src h4
   obtain ⟨s,hs⟩:∃ s,r.src[n]?=some s:=⟨r.src[n]'(by rw [<- hsrc,List.length_map] at hn;exact hn),List.getElem?_eq_getElem _⟩
   have hok:EvOk r gs e:=by
    have c1:=h2.conf.s1
    have c2:=h2.conf.s2
    have c3:=h2.conf.s3
    have c4:=h2.conf.k2
    have c5:=h2.gsLen
    have c6:(stOf r gs es).gs.length=gs.length:=by simp [stOf,rsOf]
    rw [c6] at c5
    refine ⟨by omega,he.2.2,c1,c2,c3,fun _ hl x hx _=>?_⟩
    exact h2.keepOk (by omega) (r:=x.r) (List.mem_append_right _ (List.mem_map_of_mem hx)) e hl
   refine (doEvent_any g n r s gs es e W h1 hs hok).mono ?_
   rintro en w' ⟨rfl,r',gs',hrel,h6,h7,h8⟩
   obtain ⟨E',m1,m2,m3,m4,m5,m6⟩:=evRel_sp hrel hs h2 he
   have hE':E'=((spOf (stOf r gs es) sp.E).event0 (cfOf (stOf r gs es)) n e).E:=congrArg Sp.E m2
   rw [h4] at m2 hE'
   subst hE'
   have k8:Kept F W w':=h8.mono (fun k _ e=>h5 k e)
   refine ⟨rfl,⟨_,⟨r',gs',es,h6,rfl,m4,m5,fun k hk=>?_⟩,m1,event0_fits _ _ _ _ h3,m2,m3⟩,(Kept.ofBelow hb F).trans k8,(Bytes8.ofBelow hb).trans (h1.bytes8 h8)⟩
   rcases h7 k hk with hk | hk
   . exact .inl (h5 k hk)
   . exact .inr (by have:=hb.size;omega)
 . obtain ⟨h1,h2,h3⟩:=hP
   refine (moveLine_sp g lk c _ us (Grown F w) T W h1 (by omega)).mono ?_
   rintro en w' ⟨rfl,h4,h5,h6⟩
   refine ⟨rfl,h4.mono (fun k hk=>?_),h2.step h5 (fun k hk he=>?_),h3.trans h6⟩
   . rcases hk with hk | hk
     . exact hk
     . exact .inr (by have:=h2.size;omega)
   . rcases he with he | he
     . exact he
     . omega
def Sp.break0 (s:Sp) (n:Nat):Sp:={ s with src:=s.src.modify n (fun _=>⟨true,true,0,false⟩),n:={ s.n with broken:=wrap64 (s.n.broken+1) } }
end Go.Proofs.YtcfngdnmpogaoaaGreat
