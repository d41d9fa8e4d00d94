import Derived.Test.YtcfngdnmpogaoaaGreatTkU35
import Derived.Sort.WalkC4
namespace Go.Proofs.YtcfngdnmpogaoaaGreat
open Go.RowKit Go.Sort
set_option maxHeartbeats 6400000
set_option maxRecDepth 100000
theorem parteq32 (b o c lo hi pv:Nat) (d:Array Int) (w:World) (hd:Holds encU w b o d) (h0:lo<=pv) (h1:pv < hi) (h2:hi<=d.size) (h3:d.size < 2305843009213693952) :
 Calls Tryz.prog 183 #[.slice (some ⟨b,o,none⟩) d.size c,.int .i64 lo,.int .i64 hi,.int .i64 pv] w fun e w'=>∃ (m:Nat) (d':Array Int),partitionEqual ltU d lo hi pv=(m,d')/\e=.returned (.int .i64 m)/\SIn w w' b o d d':=by
 obtain ⟨R,HR0⟩:∃ R,Hid (partitionEqual ltU d lo hi pv=R):=⟨_,rfl⟩
 rw [HR0.out]
 obtain ⟨G0,hG⟩:∃ G0:Nat->Int,∀ t,G0 t=d[t]!:=⟨fun t=>d[t]!,fun _=>rfl⟩
 obtain ⟨hc,hf⟩:=(SIn.start hd).cell hG
 obtain ⟨v0,hy0⟩:=cell?_setCell_some (w:=w) (p:=⟨b,o+lo,none⟩) (x:=.int .u32 (G0 pv)) (q:=⟨b,o+pv,none⟩) (hc pv (by omega))
 have HS0:Hid (SIn w (((w.drewN 1).setCell ⟨b,o+lo,none⟩ (.int .u32 (G0 pv))).setCell ⟨b,o+pv,none⟩ (.int .u32 (G0 lo))) b o d (swp d lo pv)):=by
  rw [hG,hG];exact (SIn.start hd).swap 1 lo pv (by omega) (by omega)
 clear hd hG
 go_enter Tryz.func183,Tryz.ntmps183
 go_wp2
 go_region
 go_wp2
 go_loopw [9,10] (fun vi vj wr=>∃ (i j:Nat) (dk:Array Int),vi=.int .i64 (i:Int)/\vj=.int .i64 (j:Int)/\lo < i/\i<=j+1/\j < hi/\SIn w wr b o d dk/\partEqLoop ltU lo i j dk=R) (fun vi vj _=>(intOf vj).toNat+1 - (intOf vi).toNat)
 case atStart=>exact ⟨lo+1,hi - 1,swp d lo pv,by go_num,by congr 1;omega,by omega,by omega,by omega,HS0.out,HR0.out⟩
 case round=>
  clear HS0 HR0
  obtain ⟨i,j,dk,rfl,rfl,hi1,hij,hj,hsi,hR⟩:=hrel
  clear hc hf hy0 v0
  obtain ⟨G,hG⟩:∃ G:Nat->Int,∀ t,G t=dk[t]!:=⟨fun t=>dk[t]!,fun _=>rfl⟩
  have HS:=hid hsi
  have HR:=hid hR
  have HG:=hid hG
  clear hsi hR hG
  go_wp2
  go_loopw [9] (fun vi wr=>∃ i1:Nat,vi=.int .i64 (i1:Int)/\i<=i1/\i1<=j+1/\SIn w wr b o d dk/\scanUp (fun x=>!ltU dk[lo]! x) dk j i1=scanUp (fun x=>!ltU dk[lo]! x) dk j i) (fun vi _=>j+1 - (intOf vi).toNat)
  case atStart=>exact ⟨i,by first | rfl | (congr 1;omega),Nat.le_refl _,hij,HS.out,rfl⟩
  case round=>
   clear HS
   obtain ⟨i1,rfl,hi2,hi3,hsi,hsc⟩:=hrel
   obtain ⟨hc,hf⟩:=hsi.cell HG.out
   have HS:=hid hsi
   have HU:=hid hsc
   clear hsi hsc
   by_cases hle:i1<=j
   . (try go_wp2_with fail);go_quiet ((go_at_call 182;exact Calls.quiet_of_same (less32 _ _ _)))
     go_wp2
     . have hl:¬ G lo < G i1:=by first | assumption | omega | exact of_not_t ‹(!decide (G lo < G i1))=true›
       go_roundw
       case rel=>exact ⟨i1+1,by go_num,by omega,by omega,HS.out.drew nq,by rw [<- HU.out,scanUp_go (fun x=>!ltU dk[lo]! x) dk j i1 hle (by show (!ltU dk[lo]! dk[i1]!)=true;unfold ltU;rw [<- HG.out,<- HG.out,decide_eq_false hl];rfl)]⟩
       case measure=>simp [intOf];omega
     . have hl:G lo < G i1:=by first | assumption | omega | exact of_not_f ‹(!decide (G lo < G i1))=false›
       have HI:Hid (i1=scanUp (fun x=>!ltU dk[lo]! x) dk j i):=by
        show i1=_
        rw [<- HU.out];exact (scanUp_end (fun x=>!ltU dk[lo]! x) dk j i1 (.inr (by show (!ltU dk[lo]! dk[i1]!)=false;unfold ltU;rw [<- HG.out,<- HG.out,decide_eq_true hl];rfl))).symm
       have HS2:=hid (HS.out.drew nq)
       clear HS HU hc hf hl
       generalize wr.drewN nq=W2 at HS2 ⊢
       go_loopw [10] (fun vj wr=>∃ j1:Nat,vj=.int .i64 (j1:Int)/\j1<=j/\i1<=j1+1/\SIn w wr b o d dk/\scanDown (fun x=>ltU dk[lo]! x) dk i1 j1=scanDown (fun x=>ltU dk[lo]! x) dk i1 j) (fun vj _=>(intOf vj).toNat)
       case atStart=>exact ⟨j,by first | rfl | (congr 1;omega),Nat.le_refl _,hi3,HS2.out,rfl⟩
       case round=>
        clear HS2
        obtain ⟨j1,rfl,hj1,hj2,hsi,hsc⟩:=hrel
        obtain ⟨hc,hf⟩:=hsi.cell HG.out
        have HS:=hid hsi
        have HD:=hid hsc
        clear hsi hsc
        by_cases hle2:i1<=j1
        . (try go_wp2_with fail);go_quiet ((go_at_call 182;exact Calls.quiet_of_same (less32 _ _ _)))
          go_wp2
          . have hl:G lo < G j1:=by first | assumption | omega | exact of_not_f ‹(!decide (G lo < G j1))=false›
            go_roundw
            case rel=>exact ⟨j1 - 1,by congr 1;omega,by omega,by omega,HS.out.drew nq,by rw [<- HD.out,scanDown_go (fun x=>ltU dk[lo]! x) dk i1 j1 hle2 (by omega) (by show ltU dk[lo]! dk[j1]! = true;unfold ltU;rw [<- HG.out,<- HG.out,decide_eq_true hl])]⟩
            case measure=>simp [intOf];omega
          . have hl:¬ G lo < G j1:=by first | assumption | omega | exact of_not_t ‹(!decide (G lo < G j1))=true›
            have HJ:Hid (j1=scanDown (fun x=>ltU dk[lo]! x) dk i1 j):=by
             show j1=_
             rw [<- HD.out];exact (scanDown_end (fun x=>ltU dk[lo]! x) dk i1 j1 (.inr (by show ltU dk[lo]! dk[j1]! = false;unfold ltU;rw [<- HG.out,<- HG.out,decide_eq_false hl]))).symm
            have HS3:=hid (HS.out.drew nq)
            clear HS HD hc hf hl
            generalize wr.drewN nq=W3 at HS3 ⊢
            obtain ⟨hc,hf⟩:=HS3.out.cell HG.out
            obtain ⟨v3,hy3⟩:=cell?_setCell_some (w:=W3) (p:=⟨b,o+i1,none⟩) (x:=.int .u32 (G j1)) (q:=⟨b,o+j1,none⟩) (hc j1 (by omega))
            have hlt:=scans_lt ltU lo i j dk (by omega) HI.out HJ.out hle2
            go_wp2
            go_region
            all_goals go_wp2
            go_roundw
            case rel=>
             refine ⟨i1+1,j1 - 1,swp dk i1 j1,by go_num,by congr 1;omega,by omega,by omega,by omega,?_,?_⟩
             . rw [HG.out,HG.out];exact HS3.out.swap 1 i1 j1 (by omega) (by omega)
             . rw [<- HR.out];exact (partEq_go ltU lo i j dk HI.out HJ.out (by omega)).symm
            case measure=>simp [intOf];omega
        . (try go_wp2_with fail);go_quiet ((go_at_call 182;exact Calls.quiet_of_same (less32 _ _ _)))
          have HJ:Hid (j1=scanDown (fun x=>ltU dk[lo]! x) dk i1 j):=by
           show j1=_
           rw [<- HD.out];exact (scanDown_end (fun x=>ltU dk[lo]! x) dk i1 j1 (.inl hle2)).symm
          have HS3:=hid (HS.out.drew nq)
          clear HS HD hc hf
          generalize wr.drewN nq=W3 at HS3 ⊢
          obtain ⟨hc,hf⟩:=HS3.out.cell HG.out
          go_wp2
          go_ret
          exact ⟨i1,dk,HR.out.symm.trans (partEq_break ltU lo i j dk HI.out HJ.out (by omega)),rfl,HS3.out⟩
   . (try go_wp2_with fail);go_quiet ((go_at_call 182;exact Calls.quiet_of_same (less32 _ _ _)))
     go_wp2
     have HI:Hid (i1=scanUp (fun x=>!ltU dk[lo]! x) dk j i):=by
      show i1=_
      rw [<- HU.out];exact (scanUp_end (fun x=>!ltU dk[lo]! x) dk j i1 (.inl hle)).symm
     have HS2:=hid (HS.out.drew nq)
     clear HS HU hc hf
     generalize wr.drewN nq=W2 at HS2 ⊢
     go_loopw [10] (fun vj wr=>∃ j1:Nat,vj=.int .i64 (j1:Int)/\j1<=j/\i1<=j1+1/\SIn w wr b o d dk/\scanDown (fun x=>ltU dk[lo]! x) dk i1 j1=scanDown (fun x=>ltU dk[lo]! x) dk i1 j) (fun vj _=>(intOf vj).toNat)
     case atStart=>exact ⟨j,by first | rfl | (congr 1;omega),Nat.le_refl _,hi3,HS2.out,rfl⟩
     case round=>
      clear HS2
      obtain ⟨j1,rfl,hj1,hj2,hsi,hsc⟩:=hrel
      obtain ⟨hc,hf⟩:=hsi.cell HG.out
      have HS:=hid hsi
      have HD:=hid hsc
      clear hsi hsc
      by_cases hle2:i1<=j1
      . exfalso;omega
      . (try go_wp2_with fail);go_quiet ((go_at_call 182;exact Calls.quiet_of_same (less32 _ _ _)))
        have HJ:Hid (j1=scanDown (fun x=>ltU dk[lo]! x) dk i1 j):=by
         show j1=_
         rw [<- HD.out];exact (scanDown_end (fun x=>ltU dk[lo]! x) dk i1 j1 (.inl hle2)).symm
        have HS3:=hid (HS.out.drew nq)
        clear HS HD hc hf
        generalize wr.drewN nq=W3 at HS3 ⊢
        obtain ⟨hc,hf⟩:=HS3.out.cell HG.out
        go_wp2
        go_ret
        exact ⟨i1,dk,HR.out.symm.trans (partEq_break ltU lo i j dk HI.out HJ.out (by omega)),rfl,HS3.out⟩
end Go.Proofs.YtcfngdnmpogaoaaGreat
namespace Go.Proofs.YtcfngdnmpogaoaaGreat
open Go.RowKit Go.Sort
set_option maxHeartbeats 12800000
set_option maxRecDepth 100000
def partFin (lo:Nat) (r:Nat × Array Int):Nat × Bool × Array Int:=(r.1,false,swp r.2 r.1 lo)
theorem part32 (b o c lo hi pv:Nat) (d:Array Int) (w:World) (hd:Holds encU w b o d) (h0:lo<=pv) (h1:pv < hi) (h2:hi<=d.size) (h3:d.size < 2305843009213693952) :
 Calls Tryz.prog 184 #[.slice (some ⟨b,o,none⟩) d.size c,.int .i64 lo,.int .i64 hi,.int .i64 pv] w fun e w'=>∃ (m:Nat) (p:Bool) (d':Array Int),partition ltU d lo hi pv=(m,p,d')/\e=.returned (.tuple #[.int .i64 m,.bool p])/\SIn w w' b o d d':=by
 obtain ⟨R,HR0⟩:∃ R,Hid (partition ltU d lo hi pv=R):=⟨_,rfl⟩
 rw [HR0.out]
 obtain ⟨G0,hG⟩:∃ G0:Nat->Int,∀ t,G0 t=d[t]!:=⟨fun t=>d[t]!,fun _=>rfl⟩
 obtain ⟨hc,hf⟩:=(SIn.start hd).cell hG
 obtain ⟨v0,hy0⟩:=cell?_setCell_some (w:=w) (p:=⟨b,o+lo,none⟩) (x:=.int .u32 (G0 pv)) (q:=⟨b,o+pv,none⟩) (hc pv (by omega))
 have HS0:Hid (SIn w (((w.drewN 1).setCell ⟨b,o+lo,none⟩ (.int .u32 (G0 pv))).setCell ⟨b,o+pv,none⟩ (.int .u32 (G0 lo))) b o d (swp d lo pv)):=by
  rw [hG,hG];exact (SIn.start hd).swap 1 lo pv (by omega) (by omega)
 clear hd hG
 obtain ⟨i,hie⟩:∃ i:Nat,i=lo+1:=⟨_,rfl⟩
 obtain ⟨j,hje⟩:∃ j:Nat,j=hi - 1:=⟨_,rfl⟩
 obtain ⟨dk,hdk⟩:∃ dk,dk=swp d lo pv:=⟨_,rfl⟩
 have ei:(lo:Int)+1=(i:Int):=by omega
 have ej:(hi:Int) - 1=(j:Int):=by omega
 have hij:i<=j+1:=by omega
 have hi1:lo < i:=by omega
 have hj:j < hi:=by omega
 rw [<- hdk] at HS0
 have Hie:Hid (i=lo+1):=hie
 have Hje:Hid (j=hi - 1):=hje
 have Hdk:Hid (dk=swp d lo pv):=hdk
 clear hie hje hdk
 go_enter Tryz.func184,Tryz.ntmps184
 go_wp2
 go_region
 go_wp2
 have HS:Hid (SIn w ((w.setCell ⟨b,o+lo,none⟩ (.int .u32 (G0 pv))).setCell ⟨b,o+pv,none⟩ (.int .u32 (G0 lo))).drew b o d dk):=HS0
 clear HS0 hc hf hy0 v0 ei ej
 generalize ((w.setCell ⟨b,o+lo,none⟩ (.int .u32 (G0 pv))).setCell ⟨b,o+pv,none⟩ (.int .u32 (G0 lo))).drew=W1 at HS ⊢
 obtain ⟨G,hG⟩:∃ G:Nat->Int,∀ t,G t=dk[t]!:=⟨fun t=>dk[t]!,fun _=>rfl⟩
 have HG:Hid (∀ t,G t=dk[t]!):=hG
 clear hG
 go_loopw [10] (fun vi wr=>∃ i1:Nat,vi=.int .i64 (i1:Int)/\i<=i1/\i1<=j+1/\SIn w wr b o d dk/\scanUp (fun x=>ltU x dk[lo]!) dk j i1=scanUp (fun x=>ltU x dk[lo]!) dk j i) (fun vi _=>j+1 - (intOf vi).toNat)
 case atStart=>exact ⟨i,by first | rfl | (congr 1;omega),Nat.le_refl _,hij,HS.out,rfl⟩
 case round=>
  clear HS
  obtain ⟨i1,rfl,hi2,hi3,hsi,hsc⟩:=hrel
  obtain ⟨hc,hf⟩:=hsi.cell HG.out
  have HS:Hid (SIn w wr b o d dk):=hsi
  have HU:Hid (scanUp (fun x=>ltU x dk[lo]!) dk j i1=scanUp (fun x=>ltU x dk[lo]!) dk j i):=hsc
  clear hsi hsc
  by_cases hle:i1<=j
  . (try go_wp2_with fail);go_quiet ((go_at_call 182;exact Calls.quiet_of_same (less32 _ _ _)))
    go_wp2
    . have hl:G i1 < G lo:=by first | assumption | omega | exact of_not_f ‹(!decide (G i1 < G lo))=false›
      go_roundw
      case rel=>exact ⟨i1+1,by go_num,by omega,by omega,HS.out.drew nq,by rw [<- HU.out,scanUp_go (fun x=>ltU x dk[lo]!) dk j i1 hle (by show ltU dk[i1]! dk[lo]! = true;unfold ltU;rw [<- HG.out,<- HG.out,decide_eq_true hl])]⟩
      case measure=>simp [intOf];omega
    . have hl:¬ G i1 < G lo:=by first | assumption | omega | exact of_not_t ‹(!decide (G i1 < G lo))=true›
      have HI:Hid (i1=scanUp (fun x=>ltU x dk[lo]!) dk j i):=by
       show i1=_
       rw [<- HU.out];exact (scanUp_end (fun x=>ltU x dk[lo]!) dk j i1 (.inr (by show ltU dk[i1]! dk[lo]! = false;unfold ltU;rw [<- HG.out,<- HG.out,decide_eq_false hl]))).symm
      have HS2:Hid (SIn w (wr.drewN nq) b o d dk):=HS.out.drew nq
      clear HS HU hc hf hl
      generalize wr.drewN nq=W2 at HS2 ⊢
      go_loopw [11] (fun vj wr=>∃ j1:Nat,vj=.int .i64 (j1:Int)/\j1<=j/\i1<=j1+1/\SIn w wr b o d dk/\scanDown (fun x=>!ltU x dk[lo]!) dk i1 j1=scanDown (fun x=>!ltU x dk[lo]!) dk i1 j) (fun vj _=>(intOf vj).toNat)
      case atStart=>exact ⟨j,by first | rfl | (congr 1;omega),Nat.le_refl _,hi3,HS2.out,rfl⟩
      case round=>
       clear HS2
       obtain ⟨j1,rfl,hj1,hj2,hsi,hsc⟩:=hrel
       obtain ⟨hc,hf⟩:=hsi.cell HG.out
       have HS:Hid (SIn w wr b o d dk):=hsi
       have HD:Hid (scanDown (fun x=>!ltU x dk[lo]!) dk i1 j1=scanDown (fun x=>!ltU x dk[lo]!) dk i1 j):=hsc
       clear hsi hsc
       by_cases hle2:i1<=j1
       . (try go_wp2_with fail);go_quiet ((go_at_call 182;exact Calls.quiet_of_same (less32 _ _ _)))
         go_wp2
         . have hl:¬ G j1 < G lo:=by first | assumption | omega | exact of_not_t ‹(!decide (G j1 < G lo))=true›
           go_roundw
           case rel=>exact ⟨j1 - 1,by congr 1;omega,by omega,by omega,HS.out.drew nq,by rw [<- HD.out,scanDown_go (fun x=>!ltU x dk[lo]!) dk i1 j1 hle2 (by omega) (by show (!ltU dk[j1]! dk[lo]!)=true;unfold ltU;rw [<- HG.out,<- HG.out,decide_eq_false hl];rfl)]⟩
           case measure=>simp [intOf];omega
         . have hl:G j1 < G lo:=by first | assumption | omega | exact of_not_f ‹(!decide (G j1 < G lo))=false›
           have HJ:Hid (j1=scanDown (fun x=>!ltU x dk[lo]!) dk i1 j):=by
            show j1=_
            rw [<- HD.out];exact (scanDown_end (fun x=>!ltU x dk[lo]!) dk i1 j1 (.inr (by show (!ltU dk[j1]! dk[lo]!)=false;unfold ltU;rw [<- HG.out,<- HG.out,decide_eq_true hl];rfl))).symm
           have HS3:Hid (SIn w (wr.drewN nq) b o d dk):=HS.out.drew nq
           clear HS HD hc hf hl
           generalize wr.drewN nq=W3 at HS3 ⊢
           obtain ⟨hc,hf⟩:=HS3.out.cell HG.out
           obtain ⟨v3,hy3⟩:=cell?_setCell_some (w:=W3) (p:=⟨b,o+i1,none⟩) (x:=.int .u32 (G j1)) (q:=⟨b,o+j1,none⟩) (hc j1 (by omega))
           have hlt:i1 < j1:=part_scans_lt ltU lo i j dk (by omega) HI.out HJ.out hle2
           go_wp2
           go_region
           all_goals go_wp2
           have HS4:Hid (SIn w (((W3.drewN 1).setCell ⟨b,o+i1,none⟩ (.int .u32 (G j1))).setCell ⟨b,o+j1,none⟩ (.int .u32 (G i1))) b o d (swp dk i1 j1)):=by
            rw [HG.out,HG.out];exact HS3.out.swap 1 i1 j1 (by omega) (by omega)
           have HR2:Hid (partFin lo (partLoop ltU lo (i1+1) (j1 - 1) (swp dk i1 j1))=R):=(part_first_go ltU d lo hi pv Hie.out Hje.out Hdk.out HI.out HJ.out (by omega)).symm.trans HR0.out
           go_loopw [10,11] (fun vi vj wr=>∃ (i j:Nat) (dk:Array Int),vi=.int .i64 (i:Int)/\vj=.int .i64 (j:Int)/\lo < i/\i<=j+1/\j < hi/\SIn w wr b o d dk/\partFin lo (partLoop ltU lo i j dk)=R) (fun vi vj _=>(intOf vj).toNat+1 - (intOf vi).toNat)
           case atStart=>exact ⟨i1+1,j1 - 1,swp dk i1 j1,by go_num,by congr 1;omega,by omega,by omega,by omega,HS4.out,HR2.out⟩
           case round=>
            clear HS4 HR2 HS3 HI HJ HR0 HG
            obtain ⟨i,j,dk,rfl,rfl,hi1,hij,hj,hsi,hR⟩:=hrel
            obtain ⟨G,hG⟩:∃ G:Nat->Int,∀ t,G t=dk[t]!:=⟨fun t=>dk[t]!,fun _=>rfl⟩
            have HS:Hid (SIn w wr b o d dk):=hsi
            have HR:Hid (partFin lo (partLoop ltU lo i j dk)=R):=hR
            have HG:Hid (∀ t,G t=dk[t]!):=hG
            clear hsi hR hG
            go_wp2
            go_loopw [10] (fun vi wr=>∃ i1:Nat,vi=.int .i64 (i1:Int)/\i<=i1/\i1<=j+1/\SIn w wr b o d dk/\scanUp (fun x=>ltU x dk[lo]!) dk j i1=scanUp (fun x=>ltU x dk[lo]!) dk j i) (fun vi _=>j+1 - (intOf vi).toNat)
            case atStart=>exact ⟨i,by first | rfl | (congr 1;omega),Nat.le_refl _,hij,HS.out,rfl⟩
            case round=>
             clear HS
             obtain ⟨i1,rfl,hi2,hi3,hsi,hsc⟩:=hrel
             obtain ⟨hc,hf⟩:=hsi.cell HG.out
             have HS:Hid (SIn w wr b o d dk):=hsi
             have HU:Hid (scanUp (fun x=>ltU x dk[lo]!) dk j i1=scanUp (fun x=>ltU x dk[lo]!) dk j i):=hsc
             clear hsi hsc
             by_cases hle:i1<=j
             . (try go_wp2_with fail);go_quiet ((go_at_call 182;exact Calls.quiet_of_same (less32 _ _ _)))
               go_wp2
               . have hl:G i1 < G lo:=by first | assumption | omega | exact of_not_f ‹(!decide (G i1 < G lo))=false›
                 go_roundw
                 case rel=>exact ⟨i1+1,by go_num,by omega,by omega,HS.out.drew nq,by rw [<- HU.out,scanUp_go (fun x=>ltU x dk[lo]!) dk j i1 hle (by show ltU dk[i1]! dk[lo]! = true;unfold ltU;rw [<- HG.out,<- HG.out,decide_eq_true hl])]⟩
                 case measure=>simp [intOf];omega
               . have hl:¬ G i1 < G lo:=by first | assumption | omega | exact of_not_t ‹(!decide (G i1 < G lo))=true›
                 have HI:Hid (i1=scanUp (fun x=>ltU x dk[lo]!) dk j i):=by
                  show i1=_
                  rw [<- HU.out];exact (scanUp_end (fun x=>ltU x dk[lo]!) dk j i1 (.inr (by show ltU dk[i1]! dk[lo]! = false;unfold ltU;rw [<- HG.out,<- HG.out,decide_eq_false hl]))).symm
                 have HS2:Hid (SIn w (wr.drewN nq) b o d dk):=HS.out.drew nq
                 clear HS HU hc hf hl
                 generalize wr.drewN nq=W2 at HS2 ⊢
                 go_loopw [11] (fun vj wr=>∃ j1:Nat,vj=.int .i64 (j1:Int)/\j1<=j/\i1<=j1+1/\SIn w wr b o d dk/\scanDown (fun x=>!ltU x dk[lo]!) dk i1 j1=scanDown (fun x=>!ltU x dk[lo]!) dk i1 j) (fun vj _=>(intOf vj).toNat)
                 case atStart=>exact ⟨j,by first | rfl | (congr 1;omega),Nat.le_refl _,hi3,HS2.out,rfl⟩
                 case round=>
                  clear HS2
                  obtain ⟨j1,rfl,hj1,hj2,hsi,hsc⟩:=hrel
                  obtain ⟨hc,hf⟩:=hsi.cell HG.out
                  have HS:Hid (SIn w wr b o d dk):=hsi
                  have HD:Hid (scanDown (fun x=>!ltU x dk[lo]!) dk i1 j1=scanDown (fun x=>!ltU x dk[lo]!) dk i1 j):=hsc
                  clear hsi hsc
                  by_cases hle2:i1<=j1
                  . (try go_wp2_with fail);go_quiet ((go_at_call 182;exact Calls.quiet_of_same (less32 _ _ _)))
                    go_wp2
                    . have hl:¬ G j1 < G lo:=by first | assumption | omega | exact of_not_t ‹(!decide (G j1 < G lo))=true›
                      go_roundw
                      case rel=>exact ⟨j1 - 1,by congr 1;omega,by omega,by omega,HS.out.drew nq,by rw [<- HD.out,scanDown_go (fun x=>!ltU x dk[lo]!) dk i1 j1 hle2 (by omega) (by show (!ltU dk[j1]! dk[lo]!)=true;unfold ltU;rw [<- HG.out,<- HG.out,decide_eq_false hl];rfl)]⟩
                      case measure=>simp [intOf];omega
                    . have hl:G j1 < G lo:=by first | assumption | omega | exact of_not_f ‹(!decide (G j1 < G lo))=false›
                      have HJ:Hid (j1=scanDown (fun x=>!ltU x dk[lo]!) dk i1 j):=by
                       show j1=_
                       rw [<- HD.out];exact (scanDown_end (fun x=>!ltU x dk[lo]!) dk i1 j1 (.inr (by show (!ltU dk[j1]! dk[lo]!)=false;unfold ltU;rw [<- HG.out,<- HG.out,decide_eq_true hl];rfl))).symm
                      have HS3:Hid (SIn w (wr.drewN nq) b o d dk):=HS.out.drew nq
                      clear HS HD hc hf hl
                      generalize wr.drewN nq=W3 at HS3 ⊢
                      obtain ⟨hc,hf⟩:=HS3.out.cell HG.out
                      obtain ⟨v3,hy3⟩:=cell?_setCell_some (w:=W3) (p:=⟨b,o+i1,none⟩) (x:=.int .u32 (G j1)) (q:=⟨b,o+j1,none⟩) (hc j1 (by omega))
                      have hlt:i1 < j1:=part_scans_lt ltU lo i j dk (by omega) HI.out HJ.out hle2
                      go_wp2
                      go_region
                      all_goals go_wp2
                      go_roundw
                      case rel=>
                       refine ⟨i1+1,j1 - 1,swp dk i1 j1,by go_num,by congr 1;omega,by omega,by omega,by omega,?_,?_⟩
                       . rw [HG.out,HG.out];exact HS3.out.swap 1 i1 j1 (by omega) (by omega)
                       . rw [<- HR.out];exact congrArg (partFin lo) (part_go ltU lo i j dk HI.out HJ.out (by omega)).symm
                      case measure=>simp [intOf];omega
                  . (try go_wp2_with fail);go_quiet ((go_at_call 182;exact Calls.quiet_of_same (less32 _ _ _)))
                    have HJ:Hid (j1=scanDown (fun x=>!ltU x dk[lo]!) dk i1 j):=by
                     show j1=_
                     rw [<- HD.out];exact (scanDown_end (fun x=>!ltU x dk[lo]!) dk i1 j1 (.inl hle2)).symm
                    have HS3:Hid (SIn w (wr.drewN nq) b o d dk):=HS.out.drew nq
                    clear HS HD hc hf
                    generalize wr.drewN nq=W3 at HS3 ⊢
                    obtain ⟨hc,hf⟩:=HS3.out.cell HG.out
                    obtain ⟨v3,hy3⟩:=cell?_setCell_some (w:=W3) (p:=⟨b,o+j1,none⟩) (x:=.int .u32 (G lo)) (q:=⟨b,o+lo,none⟩) (hc lo (by omega))
                    go_wp2
                    go_region
                    all_goals go_wp2
                    refine bodyPost_ret (v:=.tuple #[.int .i64 (j1:Int),.bool false]) (by simp [results,Tryz.results184,go_sem]) rfl ?_
                    refine ⟨j1,false,swp dk j1 lo,HR.out.symm.trans (congrArg (partFin lo) (part_break ltU lo i j dk HI.out HJ.out (by omega))),rfl,?_⟩
                    rw [HG.out,HG.out];exact HS3.out.swap 1 j1 lo (by omega) (by omega)
             . (try go_wp2_with fail);go_quiet ((go_at_call 182;exact Calls.quiet_of_same (less32 _ _ _)))
               go_wp2
               have HI:Hid (i1=scanUp (fun x=>ltU x dk[lo]!) dk j i):=by
                show i1=_
                rw [<- HU.out];exact (scanUp_end (fun x=>ltU x dk[lo]!) dk j i1 (.inl hle)).symm
               have HS2:Hid (SIn w (wr.drewN nq) b o d dk):=HS.out.drew nq
               clear HS HU hc hf
               generalize wr.drewN nq=W2 at HS2 ⊢
               go_loopw [11] (fun vj wr=>∃ j1:Nat,vj=.int .i64 (j1:Int)/\j1<=j/\i1<=j1+1/\SIn w wr b o d dk/\scanDown (fun x=>!ltU x dk[lo]!) dk i1 j1=scanDown (fun x=>!ltU x dk[lo]!) dk i1 j) (fun vj _=>(intOf vj).toNat)
               case atStart=>exact ⟨j,by first | rfl | (congr 1;omega),Nat.le_refl _,hi3,HS2.out,rfl⟩
               case round=>
                clear HS2
                obtain ⟨j1,rfl,hj1,hj2,hsi,hsc⟩:=hrel
                obtain ⟨hc,hf⟩:=hsi.cell HG.out
                have HS:Hid (SIn w wr b o d dk):=hsi
                have HD:Hid (scanDown (fun x=>!ltU x dk[lo]!) dk i1 j1=scanDown (fun x=>!ltU x dk[lo]!) dk i1 j):=hsc
                clear hsi hsc
                by_cases hle2:i1<=j1
                . exfalso;omega
                . (try go_wp2_with fail);go_quiet ((go_at_call 182;exact Calls.quiet_of_same (less32 _ _ _)))
                  have HJ:Hid (j1=scanDown (fun x=>!ltU x dk[lo]!) dk i1 j):=by
                   show j1=_
                   rw [<- HD.out];exact (scanDown_end (fun x=>!ltU x dk[lo]!) dk i1 j1 (.inl hle2)).symm
                  have HS3:Hid (SIn w (wr.drewN nq) b o d dk):=HS.out.drew nq
                  clear HS HD hc hf
                  generalize wr.drewN nq=W3 at HS3 ⊢
                  obtain ⟨hc,hf⟩:=HS3.out.cell HG.out
                  obtain ⟨v3,hy3⟩:=cell?_setCell_some (w:=W3) (p:=⟨b,o+j1,none⟩) (x:=.int .u32 (G lo)) (q:=⟨b,o+lo,none⟩) (hc lo (by omega))
                  go_wp2
                  go_region
                  all_goals go_wp2
                  refine bodyPost_ret (v:=.tuple #[.int .i64 (j1:Int),.bool false]) (by simp [results,Tryz.results184,go_sem]) rfl ?_
                  refine ⟨j1,false,swp dk j1 lo,HR.out.symm.trans (congrArg (partFin lo) (part_break ltU lo i j dk HI.out HJ.out (by omega))),rfl,?_⟩
                  rw [HG.out,HG.out];exact HS3.out.swap 1 j1 lo (by omega) (by omega)
       . (try go_wp2_with fail);go_quiet ((go_at_call 182;exact Calls.quiet_of_same (less32 _ _ _)))
         have HJ:Hid (j1=scanDown (fun x=>!ltU x dk[lo]!) dk i1 j):=by
          show j1=_
          rw [<- HD.out];exact (scanDown_end (fun x=>!ltU x dk[lo]!) dk i1 j1 (.inl hle2)).symm
         have HS3:Hid (SIn w (wr.drewN nq) b o d dk):=HS.out.drew nq
         clear HS HD hc hf
         generalize wr.drewN nq=W3 at HS3 ⊢
         obtain ⟨hc,hf⟩:=HS3.out.cell HG.out
         obtain ⟨v3,hy3⟩:=cell?_setCell_some (w:=W3) (p:=⟨b,o+j1,none⟩) (x:=.int .u32 (G lo)) (q:=⟨b,o+lo,none⟩) (hc lo (by omega))
         go_wp2
         go_region
         all_goals go_wp2
         refine bodyPost_ret (v:=.tuple #[.int .i64 (j1:Int),.bool true]) (by simp [results,Tryz.results184,go_sem]) rfl ?_
         refine ⟨j1,true,swp dk j1 lo,HR0.out.symm.trans (part_first_break ltU d lo hi pv Hie.out Hje.out Hdk.out HI.out HJ.out (by omega)),rfl,?_⟩
         rw [HG.out,HG.out];exact HS3.out.swap 1 j1 lo (by omega) (by omega)
  . (try go_wp2_with fail);go_quiet ((go_at_call 182;exact Calls.quiet_of_same (less32 _ _ _)))
    go_wp2
    have HI:Hid (i1=scanUp (fun x=>ltU x dk[lo]!) dk j i):=by
     show i1=_
     rw [<- HU.out];exact (scanUp_end (fun x=>ltU x dk[lo]!) dk j i1 (.inl hle)).symm
    have HS2:Hid (SIn w (wr.drewN nq) b o d dk):=HS.out.drew nq
    clear HS HU hc hf
    generalize wr.drewN nq=W2 at HS2 ⊢
    go_loopw [11] (fun vj wr=>∃ j1:Nat,vj=.int .i64 (j1:Int)/\j1<=j/\i1<=j1+1/\SIn w wr b o d dk/\scanDown (fun x=>!ltU x dk[lo]!) dk i1 j1=scanDown (fun x=>!ltU x dk[lo]!) dk i1 j) (fun vj _=>(intOf vj).toNat)
    case atStart=>exact ⟨j,by first | rfl | (congr 1;omega),Nat.le_refl _,hi3,HS2.out,rfl⟩
    case round=>
     clear HS2
     obtain ⟨j1,rfl,hj1,hj2,hsi,hsc⟩:=hrel
     obtain ⟨hc,hf⟩:=hsi.cell HG.out
     have HS:Hid (SIn w wr b o d dk):=hsi
     have HD:Hid (scanDown (fun x=>!ltU x dk[lo]!) dk i1 j1=scanDown (fun x=>!ltU x dk[lo]!) dk i1 j):=hsc
     clear hsi hsc
     by_cases hle2:i1<=j1
     . exfalso;omega
     . (try go_wp2_with fail);go_quiet ((go_at_call 182;exact Calls.quiet_of_same (less32 _ _ _)))
       have HJ:Hid (j1=scanDown (fun x=>!ltU x dk[lo]!) dk i1 j):=by
        show j1=_
        rw [<- HD.out];exact (scanDown_end (fun x=>!ltU x dk[lo]!) dk i1 j1 (.inl hle2)).symm
       have HS3:Hid (SIn w (wr.drewN nq) b o d dk):=HS.out.drew nq
       clear HS HD hc hf
       generalize wr.drewN nq=W3 at HS3 ⊢
       obtain ⟨hc,hf⟩:=HS3.out.cell HG.out
       obtain ⟨v3,hy3⟩:=cell?_setCell_some (w:=W3) (p:=⟨b,o+j1,none⟩) (x:=.int .u32 (G lo)) (q:=⟨b,o+lo,none⟩) (hc lo (by omega))
       go_wp2
       go_region
       all_goals go_wp2
       refine bodyPost_ret (v:=.tuple #[.int .i64 (j1:Int),.bool true]) (by simp [results,Tryz.results184,go_sem]) rfl ?_
       refine ⟨j1,true,swp dk j1 lo,HR0.out.symm.trans (part_first_break ltU d lo hi pv Hie.out Hje.out Hdk.out HI.out HJ.out (by omega)),rfl,?_⟩
       rw [HG.out,HG.out];exact HS3.out.swap 1 j1 lo (by omega) (by omega)
end Go.Proofs.YtcfngdnmpogaoaaGreat
