import Derived.Test.YtcfngdnmpogaoaaGreatTkU41
import Derived.Test.YtcfngdnmpogaoaaGreatTkU40
import Derived.JoinedCond
namespace Go.Proofs.YtcfngdnmpogaoaaGreat
open Go.RowKit
set_option maxHeartbeats 1600000
set_option maxRecDepth 20000
theorem example_all (lo hi:Int) (hlo:1<=lo) (hhi:hi<=9) (w:World) :
 Calls Tryz.prog 12 #[.int .i64 lo,.int .i64 hi] w fun e w'=>e=.returned (.bool true)/\Below w.heap.size w w':=by
 go_enter Tryz.func12,Tryz.ntmps12
 go_wp2_with fail
 refine (exS_any _).mono ?_
 rintro e W1 ⟨rfl,hb1⟩
 simp only [World.size_alloc] at hb1
 have HC:Hid (∀ W,Below (w.heap.size+1+1) ((w.alloc (.cells #[.int .i64 1,.string ⟨#[97]⟩,.int .i64 3,.int .i64 7,.int .u32 1] 28)).alloc (.cells #[.int .i64 1,.string ⟨#[97]⟩,.int .i64 12,.int .i64 (-2),.int .u32 1] 28)) W ->
  (W.heap[w.heap.size]?=some (.cells #[.int .i64 1,.string ⟨#[97]⟩,.int .i64 3,.int .i64 7,.int .u32 1] 28 (0,0))/\W.heap[w.heap.size+1]?=some (.cells #[.int .i64 1,.string ⟨#[97]⟩,.int .i64 12,.int .i64 (-2),.int .u32 1] 28 (0,0)))/\w.heap.size+2<=W.heap.size):=by
  intro W hW
  have hs:=hW.size
  simp only [World.size_alloc] at hs
  exact ⟨⟨(hW.block _ (by omega)).trans (heap_alloc2_old w _ _),(hW.block _ (by omega)).trans (heap_alloc2_new w _ _)⟩,by omega⟩
 have Hb1:=hid hb1
 obtain ⟨⟨hA,hB⟩,hs1⟩:=HC.out _ hb1
 clear hb1
 obtain ⟨b0,b1,b2,b3,b4⟩:=item_cells hB
 clear hA hB
 go_wp2_with fail
 refine (exT_any _).mono ?_
 rintro e W2 ⟨rfl,hb2⟩
 have Hb2:=hid (Hb1.out.trans (hb2.mono (by omega)))
 have hs2:=hb2.size
 clear b0 b1 b2 b3 b4 hb2 Hb1
 go_wp2_with fail
 refine (exM_any _).mono ?_
 rintro e W3 ⟨rfl,hb3⟩
 have Hb3:=hid (Hb2.out.trans (hb3.mono (by omega)))
 have hs3:=hb3.size
 obtain ⟨⟨hA,hB⟩,-⟩:=HC.out _ Hb3.out
 obtain ⟨a0,a1,a2,a3,a4⟩:=item_cells hA
 have HbW:Hid (Below w.heap.size w W3):=(((Below.refl _ w).alloc (Nat.le_refl _) _).alloc (by simp) _).trans (Hb3.out.mono (by omega))
 clear hb3 Hb2 hA hB HC Hb3
 have l1:=exS_len
 have l2:=exT_len
 have l3:=exM_len
 have hcat:str exS++str exT=str (exS++exT):=str_app _ _
 have hm1:(str exM).extract 0 4=str (exM.take 4):=by rw [extract_str,str_data];rfl
 have hm2:(str exM).extract 4 12=str (exM.drop 4):=by rw [extract_str,str_data];rfl
 have lst:(exS++exT).length=52:=by rw [List.length_append,<- str_size,<- str_size,l1,l2]
 have lm:exM.length=12:=by rw [<- str_size,l3]
 have L1:=hid lst
 have L3:=hid lm
 clear lst lm
 have hM1:(exM.take 4).length<=12:=by rw [List.length_take];omega
 generalize exS++exT=ST at *
 generalize exM.take 4=M1 at *
 go_wp2_with fail
 refine wp_region_still_tail 27 (by kernel_rfl) (by kernel_rfl) ?_
 simp only [List.take_succ_cons,List.take_zero,List.drop_succ_cons,List.drop_zero]
 change wpStill Tryz.prog _ W3.drew (fun a'=>wpList Tryz.prog _ _ _ a' W3.drew) _ _
 have a0:W3.drew.cell? ⟨w.heap.size,0,none⟩=some (.int .i64 1):=a0
 have a1:W3.drew.cell? ⟨w.heap.size,1,none⟩=some (.string ⟨#[97]⟩):=a1
 have a2:W3.drew.cell? ⟨w.heap.size,2,none⟩=some (.int .i64 3):=a2
 have a3:W3.drew.cell? ⟨w.heap.size,3,none⟩=some (.int .i64 7):=a3
 have a4:W3.drew.cell? ⟨w.heap.size,4,none⟩=some (.int .u32 1):=a4
 have HbW:=hid HbW.out.drew
 generalize W3.drew=W4 at *
 repeat still_step
 refine wpStill_nil ?_
 have hM2:(exM.drop 4).length=8:=by rw [List.length_drop,L3.out]
 generalize exM.drop 4=M2 at *
 refine wpList_build (v':=.slice (some ⟨W4.heap.size,0,none⟩) 14 14) (w':=W4.alloc (.cells (opsCells (exOps (str ST) (str M1) (str M2))).toArray 79)) _ _ _ rfl rfl (by kernel_rfl) ?_
 have hSc:Script (W4.alloc (.cells (opsCells (exOps (str ST) (str M1) (str M2))).toArray 79)) W4.heap.size 0 (exOps (str ST) (str M1) (str M2)):=fun i hi j hj=>by
  rw [cell_of_row _ _ _ _ _ _ (heap_alloc_new W4 _),Nat.zero_add]
  rw [<- opsCells_get _ i j hi hj];simp
 have hFit:∀ o ∈ exOps (str ST) (str M1) (str M2),o.FitsN:=by
  intro o ho
  have e0:(⟨#[]⟩:ByteArray).size=0:=rfl
  have e1:(⟨#[97]⟩:ByteArray).size=1:=rfl
  have e2:(str ST).size=52:=by rw [str_size];exact L1.out
  have e3:(str M1).size<=12:=by rw [str_size];exact hM1
  have e4:(str M2).size=8:=by rw [str_size];exact hM2
  simp only [exOps,opZ,List.mem_cons,List.not_mem_nil,or_false] at ho
  rcases ho with rfl | rfl | rfl | rfl | rfl | rfl | rfl | rfl | rfl | rfl | rfl | rfl | rfl | rfl <;> exact ⟨⟨by simp only;omega,by simp only;omega,by simp only;omega⟩,by simp only;omega,by simp only;omega⟩
 have hSum:fedS (exOps (str ST) (str M1) (str M2))<=5000000:=by
  have e0:(⟨#[]⟩:ByteArray).size=0:=rfl
  have e2:(str ST).size=52:=by rw [str_size];exact L1.out
  have e3:(str M1).size<=12:=by rw [str_size];exact hM1
  have e4:(str M2).size=8:=by rw [str_size];exact hM2
  unfold fedS exOps opZ
  simp only [List.map_cons,List.map_nil,List.sum_cons,List.sum_nil,e0]
  omega
 have HU:Hid (Calls Tryz.prog 13 #[.slice (some ⟨W4.heap.size,0,none⟩) 14 14,.int .i64 lo,.int .i64 hi] (W4.alloc (.cells (opsCells (exOps (str ST) (str M1) (str M2))).toArray 79)) fun e w'=>e=.returned (.int .i64 (-1))/\Below (W4.alloc (.cells (opsCells (exOps (str ST) (str M1) (str M2))).toArray 79)).heap.size (W4.alloc (.cells (opsCells (exOps (str ST) (str M1) (str M2))).toArray 79)) w'):=
  upTo_all lo hi hlo hhi W4.heap.size 0 14 (exOps (str ST) (str M1) (str M2)) _ hSc (by simp) hFit (by simp [exOps]) hSum
 have HB5:Hid (Below w.heap.size w (W4.alloc (.cells (opsCells (exOps (str ST) (str M1) (str M2))).toArray 79))):=HbW.out.alloc (HbW.out.size) _
 clear hSc hFit hSum
 have hsW:=HB5.out.size
 generalize W4.alloc (.cells (opsCells (exOps (str ST) (str M1) (str M2))).toArray 79)=W5 at *
 go_wp2_with fail
 refine HU.out.mono ?_
 rintro e W6 ⟨rfl,hb6⟩
 go_wp2
 go_ret
 exact ⟨rfl,HB5.out.trans (hb6.mono hsW)⟩
end Go.Proofs.YtcfngdnmpogaoaaGreat
namespace Go.Proofs.YtcfngdnmpogaoaaGreat
open Go.RowKit Go.ChangeShapes Go.WideShapes Go.ChangeAt
theorem cellsN_some {w:World} {base:Nat} {a:Addr} {n:Nat} {cs:List Value} (h:w.cells? base a n=some cs):cs.length=n/\∀ j,j < n->w.cell? (a.add j)=cs[j]?:=by
 unfold World.cells? at h
 split at h
 . have hl:=mapM_some_length h
   refine ⟨by simpa using hl,fun j hj=>?_⟩
   have:=mapM_some_get h j j (by simp [hj])
   rw [<- this]
 . cases h
section
variable {H:Type} {enc:TypeId × Value->H} {w:World} {base:Nat} {spare:Nat->Bool} {held:Bool}
theorem open_opN {fuel:Nat} {cs:List Value} {x:DataW H × List MemPlace} (h:DataW.trod enc Tryz.prog w base spare held fuel 79 cs=some x) :
 ∃ o:OpD,cs=o.cells.toList/\o.ikey.size<=maxLen/\o.itag < 4294967296/\(-9223372036854775808<=o.n/\o.n<=9223372036854775807)/\o.s.size+1<=Rows.uptoBulk x.1:=by
 obtain ⟨xs,n,_,rfl,hl,hlen,hf⟩:=DataW.trod_struct Tryz.underlying79 h
 rw [cells48] at hl
 obtain ⟨c0,c1,c2,c3,c4,c5,c6,c7,c8,c9,c10,c11,c12,rfl⟩:=list13 hl
 have e0:=hf 0 ⟨ "Kind",3,0,false,"","",0⟩ rfl
 have e1:=hf 1 ⟨ "N",3,1,false,"","",8⟩ rfl
 have e2:=hf 2 ⟨ "Source",3,2,false,"","",16⟩ rfl
 have e3:=hf 3 ⟨ "S",9,3,false,"","",24⟩ rfl
 have e4:=hf 4 ⟨ "I",28,4,false,"","",40⟩ rfl
 have e5:=hf 5 ⟨ "C",42,9,false,"","",88⟩ rfl
 simp only [cells3,cells9,cells44,cells28,List.drop_zero,List.drop_succ_cons,List.take_succ_cons,List.take_zero] at e0 e1 e2 e3 e4 e5
 have hxl:xs.length=6:=by rw [hlen];rfl
 match xs,hxl with
 | [y0,y1,y2,y3,y4,y5],_=>
   try simp only [List.getElem?_cons_zero,List.getElem?_cons_succ] at e0 e1 e2 e3 e4 e5
   obtain ⟨k0,hk0,_,_⟩:=DataW.trod_int Tryz.underlying3 e0
   obtain ⟨k1,hk1,_,hw1⟩:=DataW.trod_int Tryz.underlying3 e1
   obtain ⟨k2,hk2,_,_⟩:=DataW.trod_int Tryz.underlying3 e2
   obtain ⟨s,hs,hy3,hss⟩:=DataW.trod_string Tryz.underlying9 e3
   obtain ⟨ik,key,t,v,tag,hi,hks,htg⟩:=open_item e4
   obtain ⟨q0,q1,q2,q3,hc⟩:=open_config e5
   simp only [List.cons.injEq,and_true] at hk0 hk1 hk2 hs hi hc
   obtain ⟨rfl,rfl,rfl,rfl,rfl⟩:=hi
   obtain ⟨rfl,rfl,rfl,rfl⟩:=hc
   subst hk0 hk1 hk2 hs
   refine ⟨⟨k0,k1,k2,s,ik,key,t,v,tag,q0,q1,q2,q3⟩,rfl,hks,htg,bounds_i64 hw1,?_⟩
   subst hy3
   have e:=keyLen s
   simp only [List.map_cons,List.map_nil,Rows.uptoBulk,Rows.uptoBulkAll]
   omega
end
theorem fed_bulk {H:Type} (f:Nat->OpD) (D:Nat->DataW H) (l:List Nat) (h:∀ i ∈ l,(f i).s.size+1<=Rows.uptoBulk (D i)):fedS (l.map f)+l.length<=Rows.uptoBulkAll (l.map D):=by
 induction l with
 | nil=>simp [fedS,Rows.uptoBulkAll]
 | cons i l ih=>
   have h1:=ih (fun j hj=>h j (List.mem_cons_of_mem _ hj))
   have h2:=h i (List.mem_cons_self ..)
   unfold fedS at *
   simp only [List.map_cons,List.sum_cons,Rows.uptoBulkAll,List.length_cons];omega
theorem open_scriptN {H:Type} {enc:TypeId × Value->H} {W:World} {fuel:Nat} {cs:List Value} {d:DataW H} {p:List MemPlace} (h:DataW.trod enc Tryz.prog W 0 (fun _=>true) true fuel 22 cs=some (d,p))
 (hsz:Rows.uptoBulk d<=1048576) (hlt:∀ x ∈ p,x.block < W.heap.size) :
 (∃ a cap,cs=[.slice a 0 cap])\/∃ b off cap ops,cs=[.slice (some ⟨b,off,none⟩) (List.length ops) cap]/\Script W b off ops/\b < W.heap.size/\(∀ o ∈ ops,OpD.FitsN o)/\ops.length<=1000000000000/\fedS ops<=5000000:=by
 rcases Deep.open_slice Tryz.underlying22 h with ⟨hcs,_⟩ | ⟨a,len,cap,m,n,D,Pl,hcs,_,hl,hm,hmm,hx,hel⟩
 . exact .inl ⟨none,0,hcs⟩
 . by_cases h0:len=0
   . subst h0;exact .inl ⟨some a,cap,hcs⟩
   . right
     simp only [if_true] at hmm
     subst hmm
     simp only [Prod.mk.injEq] at hx
     obtain ⟨hd,hp⟩:=hx
     rw [hd] at hsz
     rw [hp] at hlt
     rw [cells48] at hel
     have hall:∀ i,∃ o:OpD,i < len->o.ikey.size<=maxLen/\o.itag < 4294967296/\(-9223372036854775808<=o.n/\o.n<=9223372036854775807)/\o.s.size+1<=Rows.uptoBulk (D i)/\∀ j,j < 13->W.cell? ((a.add (i*13)).add j)=o.cells[j]?:=by
      intro i
      by_cases hi:i < len
      . obtain ⟨cs',h1,h2⟩:=hel i (by omega)
        obtain ⟨o,rfl,hk,ht,hn,hw⟩:=open_opN h2
        obtain ⟨hl13,hc⟩:=cellsN_some h1
        refine ⟨o,fun _=>⟨hk,ht,hn,hw,fun j hj=>?_⟩⟩
        rw [hc j hj];simp
      . exact ⟨opZ 0,fun hh=>absurd hh hi⟩
     obtain ⟨f,hf⟩:=Classical.skolem.1 hall
     have hlen:((List.range len).map f).length=len:=by simp
     have hbulk:fedS ((List.range len).map f)+len<=1048576:=by
      have:=fed_bulk f D (List.range len) (fun i hi=>(hf i (List.mem_range.1 hi)).2.2.2.1)
      rw [List.length_range] at this
      simp only [Rows.uptoBulk] at hsz
      omega
     have hone:∀ i,i < len->(f i).s.size<=1048576:=fun i hi=>by
      have h1:=(hf i hi).2.2.2.1
      have h2:Rows.uptoBulk (D i)<=Rows.uptoBulkAll ((List.range len).map D):=by
       have:∀ l:List (DataW H),∀ x ∈ l,Rows.uptoBulk x<=Rows.uptoBulkAll l:=by
        intro l
        induction l with
        | nil=>intro x hx;cases hx
        | cons y l ih=>
          intro x hx
          simp only [Rows.uptoBulkAll]
          rcases List.mem_cons.1 hx with rfl | hx
          . omega
          . have:=ih x hx;omega
       exact this _ _ (List.mem_map_of_mem (List.mem_range.2 hi))
      simp only [Rows.uptoBulk] at hsz
      omega
     obtain ⟨b,off,spot⟩:=a
     have hspot:spot=none:=by
      have:=(hf 0 (by omega)).2.2.2.2 0 (by omega)
      cases spot with
      | none=>rfl
      | some q=>
        simp [OpD.cells,World.cell?,Addr.add] at this
        split at this <;> simp at this
     subst hspot
     refine ⟨b,off,m,(List.range len).map f,by rw [hlen];exact hcs,?_,?_,?_,by omega,by omega⟩
     . intro i hi j hj
       rw [hlen] at hi
       have:=(hf i hi).2.2.2.2 j hj
       rw [Addr.add_lit,Addr.add_lit,Nat.add_assoc] at this
       rw [this]
       simp
     . exact hlt (.cell b off) (List.mem_append_left _ (MemPlace.mem_row.2 ⟨0,by rw [cells48];omega,by simp⟩))
     . intro o ho
       obtain ⟨i,hi,rfl⟩:=List.mem_map.1 ho
       have hi2:=List.mem_range.1 hi
       obtain ⟨hk,ht,hn,hw,-⟩:=hf i hi2
       have:=hone i hi2
       exact ⟨⟨by omega,by simp only [maxLen] at hk;omega,ht⟩,hn⟩
theorem ownL:ownKnob Tryz.prog.godebug=none:=by kernel_rfl
theorem laidOutL:laidOutB Tryz.prog=true:=by kernel_rfl
end Go.Proofs.YtcfngdnmpogaoaaGreat
