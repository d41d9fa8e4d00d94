import Derived.Test.YtcfngdnmpogaoaaGreatTkU35
import Derived.Sort.WalkA6
namespace Go.Proofs.YtcfngdnmpogaoaaGreat
open Go.RowKit Go.Sort
set_option maxHeartbeats 12800000
set_option maxRecDepth 100000
theorem parti32 (b o c lo hi:Nat) (d:Array Int) (w:World) (hd:Holds encU w b o d) (h1:lo < hi) (h2:hi<=d.size) (h3:d.size < 2305843009213693952) :
 Calls Tryz.prog 181 #[.slice (some ⟨b,o,none⟩) d.size c,.int .i64 lo,.int .i64 hi] w fun e w'=>∃ (d':Array Int) (p:Bool),partialInsertionSort ltU d lo hi=(d',p)/\e=.returned (.bool p)/\SIn w w' b o d d':=by
 obtain ⟨R,HR0⟩:∃ R,Hid (partialInsertionSort ltU d lo hi=R):=⟨_,rfl⟩
 rw [HR0.out]
 have HR1:Hid (partialIns ltU lo hi (5 - 0) (lo+1) d=R):=HR0.out
 have HS0:Hid (SIn w w b o d d):=.start hd
 clear hd HR0
 go_enter Tryz.func181,Tryz.ntmps181
 go_wp2
 go_loopw [7,8] (fun vi vs wr=>∃ (i s:Nat) (dk:Array Int),vi=.int .i64 (i:Int)/\vs=.int .i64 (s:Int)/\s<=5/\lo < i/\i<=hi/\SIn w wr b o d dk/\partialIns ltU lo hi (5 - s) i dk=R) (fun _ vs _=>5 - (intOf vs).toNat)
 case atStart=>exact ⟨lo+1,0,d,by go_num,rfl,by omega,by omega,by omega,HS0.out,HR1.out⟩
 case round=>
  clear HS0 HR1
  obtain ⟨i,s,dk,rfl,rfl,hs,hi1,hi2,hsi,hR⟩:=hrel
  obtain ⟨G,hG⟩:∃ G:Nat->Int,∀ t,G t=dk[t]!:=⟨fun t=>dk[t]!,fun _=>rfl⟩
  have HS:Hid (SIn w wr b o d dk):=hsi
  have HR:Hid (partialIns ltU lo hi (5 - s) i dk=R):=hR
  have HG:Hid (∀ t,G t=dk[t]!):=hG
  clear hsi hR hG
  by_cases hs5:s < 5
  . go_wp2
    go_loopw [7] (fun vi wr=>∃ k:Nat,vi=.int .i64 (k:Int)/\i<=k/\k<=hi/\SIn w wr b o d dk/\scanSorted ltU dk hi k=scanSorted ltU dk hi i) (fun vi _=>hi - (intOf vi).toNat)
    case atStart=>exact ⟨i,rfl,Nat.le_refl _,hi2,HS.out,rfl⟩
    case round=>
     clear HS
     obtain ⟨k,rfl,hk1,hk2,hsi,hsc⟩:=hrel
     obtain ⟨hc,hf⟩:=hsi.cell HG.out
     have HS:Hid (SIn w wr b o d dk):=hsi
     have HU:Hid (scanSorted ltU dk hi k=scanSorted ltU dk hi i):=hsc
     clear hsi hsc
     by_cases hkb:k < hi
     . have hkne:((k:Int) == (hi:Int))=false:=by
        have:¬ (k:Int)=(hi:Int):=by omega
        simpa using this
       (try go_wp2_with fail);go_quiet ((go_at_call 182;exact Calls.quiet_of_same (less32 _ _ _)))
       go_wp2
       . have hl:¬ G k < G (k - 1):=by first | assumption | omega | exact of_not_t ‹(!decide (G k < G (k - 1)))=true›
         go_roundw
         case rel=>exact ⟨k+1,by go_num,by omega,by omega,HS.out.drew nq,by rw [<- HU.out,scanSorted_go ltU dk hi k hkb (by unfold ltU;rw [<- HG.out,<- HG.out];exact decide_eq_false hl)]⟩
         case measure=>simp [intOf];omega
       . have hl:G k < G (k - 1):=by first | assumption | omega | exact of_not_f ‹(!decide (G k < G (k - 1)))=false›
         have HK:Hid (scanSorted ltU dk hi i=k):=by
          show _=_
          rw [<- HU.out];exact scanSorted_stop ltU dk hi k (.inr (by unfold ltU;rw [<- HG.out,<- HG.out];exact decide_eq_true hl))
         have HS3:Hid (SIn w (wr.drewN nq) b o d dk):=HS.out.drew nq
         have h50:hi - lo < 50:=by omega
         go_ret
         exact ⟨dk,false,HR.out.symm.trans (pi_short ltU lo hi s i dk hs5 (by rw [HK.out];omega) h50),rfl,HS3.out⟩
       . have hl:G k < G (k - 1):=by first | assumption | omega | exact of_not_f ‹(!decide (G k < G (k - 1)))=false›
         have HK:Hid (scanSorted ltU dk hi i=k):=by
          show _=_
          rw [<- HU.out];exact scanSorted_stop ltU dk hi k (.inr (by unfold ltU;rw [<- HG.out,<- HG.out];exact decide_eq_true hl))
         have HS3:Hid (SIn w (wr.drewN nq) b o d dk):=HS.out.drew nq
         clear HS HU hc hf hl
         generalize wr.drewN nq=W3 at HS3 ⊢
         obtain ⟨hc,hf⟩:=HS3.out.cell HG.out
         have h50:¬ hi - lo < 50:=by omega
         by_cases hb2:2<=hi - k
         . by_cases ha2:2<=k - lo
           . go_region
             all_goals go_wp2_with fail
             have HSD:Hid (SIn w (((W3.setCell ⟨b,o+k,none⟩ (.int .u32 (G (k - 1)))).setCell ⟨b,o+(k - 1),none⟩ (.int .u32 (G k))).drew) b o d (swp dk k (k - 1))):=by
              have h9:=HS3.out.swap 1 k (k - 1) (by omega) (by omega)
              rw [<- HG.out,<- HG.out] at h9
              exact h9
             clear HS3 hc hf HG
             generalize ((W3.setCell ⟨b,o+k,none⟩ (.int .u32 (G (k - 1)))).setCell ⟨b,o+(k - 1),none⟩ (.int .u32 (G k))).drew=W4 at HSD ⊢
             go_loopw [9] (fun vj wr=>∃ (j:Nat) (dj:Array Int),vj=.int .i64 (j:Int)/\j<=k - 1/\SIn w wr b o d dj/\shiftDown ltU j dj=fixDown ltU lo k (swp dk k (k - 1))) (fun vj _=>(intOf vj).toNat)
             case atStart=>exact ⟨k - 1,_,by congr 1;omega,Nat.le_refl _,HSD.out,(if_pos ha2).symm⟩
             case round=>
              clear HSD
              obtain ⟨j1,dj,rfl,hj1,hsi,hsd⟩:=hrel
              obtain ⟨G,hG⟩:∃ G:Nat->Int,∀ t,G t=dj[t]!:=⟨fun t=>dj[t]!,fun _=>rfl⟩
              obtain ⟨hc,hf⟩:=hsi.cell hG
              have HS:Hid (SIn w wr b o d dj):=hsi
              have HG:Hid (∀ t,G t=dj[t]!):=hG
              have HU:Hid (shiftDown ltU j1 dj=fixDown ltU lo k (swp dk k (k - 1))):=hsd
              clear hsi hsd hG
              by_cases hjb:1<=j1
              . go_wp2
                (try go_wp2_with fail);go_quiet ((go_at_call 182;exact Calls.quiet_of_same (less32 _ _ _)))
                go_wp2
                . have hl:¬ G j1 < G (j1 - 1):=by first | assumption | omega | exact of_not_t ‹(!decide (G j1 < G (j1 - 1)))=true›
                  have HDJ:Hid (fixDown ltU lo k (swp dk k (k - 1))=dj):=by
                   show _=_
                   rw [<- HU.out];exact shiftDown_stop ltU j1 dj (.inr (by unfold ltU;rw [<- HG.out,<- HG.out];exact decide_eq_false hl))
                  have HSD:Hid (SIn w (wr.drewN nq) b o d dj):=HS.out.drew nq
                  clear HS hc hf hl HG HU
                  go_loopw [10] (fun vj wr=>∃ (j:Nat) (du:Array Int),vj=.int .i64 (j:Int)/\k+1<=j/\j<=hi/\SIn w wr b o d du/\shiftUp ltU hi j du=fixUp ltU hi k dj) (fun vj _=>hi - (intOf vj).toNat)
                  case atStart=>exact ⟨k+1,dj,by go_num,Nat.le_refl _,by omega,HSD.out,(if_pos hb2).symm⟩
                  case round=>
                   clear HSD
                   obtain ⟨j2,du,rfl,hj3,hj4,hsi,hsu⟩:=hrel
                   obtain ⟨G,hG⟩:∃ G:Nat->Int,∀ t,G t=du[t]!:=⟨fun t=>du[t]!,fun _=>rfl⟩
                   obtain ⟨hc,hf⟩:=hsi.cell hG
                   have HS:Hid (SIn w wr b o d du):=hsi
                   have HG:Hid (∀ t,G t=du[t]!):=hG
                   have HU:Hid (shiftUp ltU hi j2 du=fixUp ltU hi k dj):=hsu
                   clear hsi hsu hG
                   by_cases hjb:j2 < hi
                   . go_wp2
                     (try go_wp2_with fail);go_quiet ((go_at_call 182;exact Calls.quiet_of_same (less32 _ _ _)))
                     go_wp2
                     . have hl:¬ G j2 < G (j2 - 1):=by first | assumption | omega | exact of_not_t ‹(!decide (G j2 < G (j2 - 1)))=true›
                       have HDU:Hid (fixUp ltU hi k dj=du):=by
                        show _=_
                        rw [<- HU.out];exact shiftUp_stop ltU hi j2 du (.inr (by unfold ltU;rw [<- HG.out,<- HG.out];exact decide_eq_false hl))
                       have HSU:Hid (SIn w (wr.drewN nq) b o d du):=HS.out.drew nq
                       go_roundw
                       case rel=>exact ⟨k,s+1,du,rfl,by go_num,by omega,by omega,by omega,HSU.out,by rw [<- HR.out,pi_go ltU lo hi s i k dk hs5 HK.out (by omega) (by omega),HDJ.out,HDU.out]⟩
                       case measure=>simp [intOf];omega
                     . have hl:G j2 < G (j2 - 1):=by first | assumption | omega | exact of_not_f ‹(!decide (G j2 < G (j2 - 1)))=false›
                       have HS3:Hid (SIn w (wr.drewN nq) b o d du):=HS.out.drew nq
                       clear HS hc hf
                       generalize wr.drewN nq=W3 at HS3 ⊢
                       obtain ⟨hc,hf⟩:=HS3.out.cell HG.out
                       go_wp2
                       go_region
                       all_goals go_wp2
                       go_roundw
                       case rel=>
                        refine ⟨j2+1,swp du j2 (j2 - 1),by go_num,by omega,by omega,?_,?_⟩
                        . rw [HG.out,HG.out];exact HS3.out.swap 1 j2 (j2 - 1) (by omega) (by omega)
                        . rw [<- HU.out];exact (shiftUp_go ltU hi j2 du hjb (by unfold ltU;rw [<- HG.out,<- HG.out];exact decide_eq_true hl)).symm
                       case measure=>simp [intOf];omega
                   . go_wp2
                     have HDU:Hid (fixUp ltU hi k dj=du):=by
                      show _=_
                      rw [<- HU.out];exact shiftUp_stop ltU hi j2 du (.inl hjb)
                     have HSU:Hid (SIn w wr b o d du):=HS.out
                     go_roundw
                     case rel=>exact ⟨k,s+1,du,rfl,by go_num,by omega,by omega,by omega,HSU.out,by rw [<- HR.out,pi_go ltU lo hi s i k dk hs5 HK.out (by omega) (by omega),HDJ.out,HDU.out]⟩
                     case measure=>simp [intOf];omega
                . have hl:G j1 < G (j1 - 1):=by first | assumption | omega | exact of_not_f ‹(!decide (G j1 < G (j1 - 1)))=false›
                  have HS3:Hid (SIn w (wr.drewN nq) b o d dj):=HS.out.drew nq
                  clear HS hc hf
                  generalize wr.drewN nq=W3 at HS3 ⊢
                  obtain ⟨hc,hf⟩:=HS3.out.cell HG.out
                  go_wp2
                  go_region
                  all_goals go_wp2
                  go_roundw
                  case rel=>
                   refine ⟨j1 - 1,swp dj j1 (j1 - 1),by congr 1;omega,by omega,?_,?_⟩
                   . rw [HG.out,HG.out];exact HS3.out.swap 1 j1 (j1 - 1) (by omega) (by omega)
                   . rw [<- HU.out];exact (shiftDown_go ltU j1 dj hjb (by unfold ltU;rw [<- HG.out,<- HG.out];exact decide_eq_true hl)).symm
                  case measure=>simp [intOf];omega
              . go_wp2_with fail
                have HDJ:Hid (fixDown ltU lo k (swp dk k (k - 1))=dj):=by
                 show _=_
                 rw [<- HU.out];exact shiftDown_stop ltU j1 dj (.inl (by omega))
                have HSD:Hid (SIn w wr b o d dj):=HS.out
                clear HS hc hf HG HU
                go_loopw [10] (fun vj wr=>∃ (j:Nat) (du:Array Int),vj=.int .i64 (j:Int)/\k+1<=j/\j<=hi/\SIn w wr b o d du/\shiftUp ltU hi j du=fixUp ltU hi k dj) (fun vj _=>hi - (intOf vj).toNat)
                case atStart=>exact ⟨k+1,dj,by go_num,Nat.le_refl _,by omega,HSD.out,(if_pos hb2).symm⟩
                case round=>
                 clear HSD
                 obtain ⟨j2,du,rfl,hj3,hj4,hsi,hsu⟩:=hrel
                 obtain ⟨G,hG⟩:∃ G:Nat->Int,∀ t,G t=du[t]!:=⟨fun t=>du[t]!,fun _=>rfl⟩
                 obtain ⟨hc,hf⟩:=hsi.cell hG
                 have HS:Hid (SIn w wr b o d du):=hsi
                 have HG:Hid (∀ t,G t=du[t]!):=hG
                 have HU:Hid (shiftUp ltU hi j2 du=fixUp ltU hi k dj):=hsu
                 clear hsi hsu hG
                 by_cases hjb:j2 < hi
                 . go_wp2
                   (try go_wp2_with fail);go_quiet ((go_at_call 182;exact Calls.quiet_of_same (less32 _ _ _)))
                   go_wp2
                   . have hl:¬ G j2 < G (j2 - 1):=by first | assumption | omega | exact of_not_t ‹(!decide (G j2 < G (j2 - 1)))=true›
                     have HDU:Hid (fixUp ltU hi k dj=du):=by
                      show _=_
                      rw [<- HU.out];exact shiftUp_stop ltU hi j2 du (.inr (by unfold ltU;rw [<- HG.out,<- HG.out];exact decide_eq_false hl))
                     have HSU:Hid (SIn w (wr.drewN nq) b o d du):=HS.out.drew nq
                     go_roundw
                     case rel=>exact ⟨k,s+1,du,rfl,by go_num,by omega,by omega,by omega,HSU.out,by rw [<- HR.out,pi_go ltU lo hi s i k dk hs5 HK.out (by omega) (by omega),HDJ.out,HDU.out]⟩
                     case measure=>simp [intOf];omega
                   . have hl:G j2 < G (j2 - 1):=by first | assumption | omega | exact of_not_f ‹(!decide (G j2 < G (j2 - 1)))=false›
                     have HS3:Hid (SIn w (wr.drewN nq) b o d du):=HS.out.drew nq
                     clear HS hc hf
                     generalize wr.drewN nq=W3 at HS3 ⊢
                     obtain ⟨hc,hf⟩:=HS3.out.cell HG.out
                     go_wp2
                     go_region
                     all_goals go_wp2
                     go_roundw
                     case rel=>
                      refine ⟨j2+1,swp du j2 (j2 - 1),by go_num,by omega,by omega,?_,?_⟩
                      . rw [HG.out,HG.out];exact HS3.out.swap 1 j2 (j2 - 1) (by omega) (by omega)
                      . rw [<- HU.out];exact (shiftUp_go ltU hi j2 du hjb (by unfold ltU;rw [<- HG.out,<- HG.out];exact decide_eq_true hl)).symm
                     case measure=>simp [intOf];omega
                 . go_wp2
                   have HDU:Hid (fixUp ltU hi k dj=du):=by
                    show _=_
                    rw [<- HU.out];exact shiftUp_stop ltU hi j2 du (.inl hjb)
                   have HSU:Hid (SIn w wr b o d du):=HS.out
                   go_roundw
                   case rel=>exact ⟨k,s+1,du,rfl,by go_num,by omega,by omega,by omega,HSU.out,by rw [<- HR.out,pi_go ltU lo hi s i k dk hs5 HK.out (by omega) (by omega),HDJ.out,HDU.out]⟩
                   case measure=>simp [intOf];omega
           . go_region
             all_goals go_wp2_with fail
             have HSD:Hid (SIn w (((W3.setCell ⟨b,o+k,none⟩ (.int .u32 (G (k - 1)))).setCell ⟨b,o+(k - 1),none⟩ (.int .u32 (G k))).drew) b o d (swp dk k (k - 1))):=by
              have h9:=HS3.out.swap 1 k (k - 1) (by omega) (by omega)
              rw [<- HG.out,<- HG.out] at h9
              exact h9
             clear HS3 hc hf HG
             generalize ((W3.setCell ⟨b,o+k,none⟩ (.int .u32 (G (k - 1)))).setCell ⟨b,o+(k - 1),none⟩ (.int .u32 (G k))).drew=W4 at HSD ⊢
             obtain ⟨dj,Hdj⟩:∃ dj,Hid (swp dk k (k - 1)=dj):=⟨_,rfl⟩
             have HDJ:Hid (fixDown ltU lo k (swp dk k (k - 1))=dj):=(if_neg ha2).trans Hdj.out
             rw [Hdj.out] at HSD
             go_loopw [10] (fun vj wr=>∃ (j:Nat) (du:Array Int),vj=.int .i64 (j:Int)/\k+1<=j/\j<=hi/\SIn w wr b o d du/\shiftUp ltU hi j du=fixUp ltU hi k dj) (fun vj _=>hi - (intOf vj).toNat)
             case atStart=>exact ⟨k+1,dj,by go_num,Nat.le_refl _,by omega,HSD.out,(if_pos hb2).symm⟩
             case round=>
              clear HSD
              obtain ⟨j2,du,rfl,hj3,hj4,hsi,hsu⟩:=hrel
              obtain ⟨G,hG⟩:∃ G:Nat->Int,∀ t,G t=du[t]!:=⟨fun t=>du[t]!,fun _=>rfl⟩
              obtain ⟨hc,hf⟩:=hsi.cell hG
              have HS:Hid (SIn w wr b o d du):=hsi
              have HG:Hid (∀ t,G t=du[t]!):=hG
              have HU:Hid (shiftUp ltU hi j2 du=fixUp ltU hi k dj):=hsu
              clear hsi hsu hG
              by_cases hjb:j2 < hi
              . go_wp2
                (try go_wp2_with fail);go_quiet ((go_at_call 182;exact Calls.quiet_of_same (less32 _ _ _)))
                go_wp2
                . have hl:¬ G j2 < G (j2 - 1):=by first | assumption | omega | exact of_not_t ‹(!decide (G j2 < G (j2 - 1)))=true›
                  have HDU:Hid (fixUp ltU hi k dj=du):=by
                   show _=_
                   rw [<- HU.out];exact shiftUp_stop ltU hi j2 du (.inr (by unfold ltU;rw [<- HG.out,<- HG.out];exact decide_eq_false hl))
                  have HSU:Hid (SIn w (wr.drewN nq) b o d du):=HS.out.drew nq
                  go_roundw
                  case rel=>exact ⟨k,s+1,du,rfl,by go_num,by omega,by omega,by omega,HSU.out,by rw [<- HR.out,pi_go ltU lo hi s i k dk hs5 HK.out (by omega) (by omega),HDJ.out,HDU.out]⟩
                  case measure=>simp [intOf];omega
                . have hl:G j2 < G (j2 - 1):=by first | assumption | omega | exact of_not_f ‹(!decide (G j2 < G (j2 - 1)))=false›
                  have HS3:Hid (SIn w (wr.drewN nq) b o d du):=HS.out.drew nq
                  clear HS hc hf
                  generalize wr.drewN nq=W3 at HS3 ⊢
                  obtain ⟨hc,hf⟩:=HS3.out.cell HG.out
                  go_wp2
                  go_region
                  all_goals go_wp2
                  go_roundw
                  case rel=>
                   refine ⟨j2+1,swp du j2 (j2 - 1),by go_num,by omega,by omega,?_,?_⟩
                   . rw [HG.out,HG.out];exact HS3.out.swap 1 j2 (j2 - 1) (by omega) (by omega)
                   . rw [<- HU.out];exact (shiftUp_go ltU hi j2 du hjb (by unfold ltU;rw [<- HG.out,<- HG.out];exact decide_eq_true hl)).symm
                  case measure=>simp [intOf];omega
              . go_wp2
                have HDU:Hid (fixUp ltU hi k dj=du):=by
                 show _=_
                 rw [<- HU.out];exact shiftUp_stop ltU hi j2 du (.inl hjb)
                have HSU:Hid (SIn w wr b o d du):=HS.out
                go_roundw
                case rel=>exact ⟨k,s+1,du,rfl,by go_num,by omega,by omega,by omega,HSU.out,by rw [<- HR.out,pi_go ltU lo hi s i k dk hs5 HK.out (by omega) (by omega),HDJ.out,HDU.out]⟩
                case measure=>simp [intOf];omega
         . by_cases ha2:2<=k - lo
           . go_region
             all_goals go_wp2_with fail
             have HSD:Hid (SIn w (((W3.setCell ⟨b,o+k,none⟩ (.int .u32 (G (k - 1)))).setCell ⟨b,o+(k - 1),none⟩ (.int .u32 (G k))).drew) b o d (swp dk k (k - 1))):=by
              have h9:=HS3.out.swap 1 k (k - 1) (by omega) (by omega)
              rw [<- HG.out,<- HG.out] at h9
              exact h9
             clear HS3 hc hf HG
             generalize ((W3.setCell ⟨b,o+k,none⟩ (.int .u32 (G (k - 1)))).setCell ⟨b,o+(k - 1),none⟩ (.int .u32 (G k))).drew=W4 at HSD ⊢
             go_loopw [9] (fun vj wr=>∃ (j:Nat) (dj:Array Int),vj=.int .i64 (j:Int)/\j<=k - 1/\SIn w wr b o d dj/\shiftDown ltU j dj=fixDown ltU lo k (swp dk k (k - 1))) (fun vj _=>(intOf vj).toNat)
             case atStart=>exact ⟨k - 1,_,by congr 1;omega,Nat.le_refl _,HSD.out,(if_pos ha2).symm⟩
             case round=>
              clear HSD
              obtain ⟨j1,dj,rfl,hj1,hsi,hsd⟩:=hrel
              obtain ⟨G,hG⟩:∃ G:Nat->Int,∀ t,G t=dj[t]!:=⟨fun t=>dj[t]!,fun _=>rfl⟩
              obtain ⟨hc,hf⟩:=hsi.cell hG
              have HS:Hid (SIn w wr b o d dj):=hsi
              have HG:Hid (∀ t,G t=dj[t]!):=hG
              have HU:Hid (shiftDown ltU j1 dj=fixDown ltU lo k (swp dk k (k - 1))):=hsd
              clear hsi hsd hG
              by_cases hjb:1<=j1
              . go_wp2
                (try go_wp2_with fail);go_quiet ((go_at_call 182;exact Calls.quiet_of_same (less32 _ _ _)))
                go_wp2
                . have hl:¬ G j1 < G (j1 - 1):=by first | assumption | omega | exact of_not_t ‹(!decide (G j1 < G (j1 - 1)))=true›
                  have HDJ:Hid (fixDown ltU lo k (swp dk k (k - 1))=dj):=by
                   show _=_
                   rw [<- HU.out];exact shiftDown_stop ltU j1 dj (.inr (by unfold ltU;rw [<- HG.out,<- HG.out];exact decide_eq_false hl))
                  have HSD:Hid (SIn w (wr.drewN nq) b o d dj):=HS.out.drew nq
                  clear HS hc hf hl HG HU
                  have HDU:Hid (fixUp ltU hi k dj=dj):=if_neg hb2
                  have HSU:Hid (SIn w (wr.drewN nq) b o d dj):=HSD.out
                  go_roundw
                  case rel=>exact ⟨k,s+1,dj,rfl,by go_num,by omega,by omega,by omega,HSU.out,by rw [<- HR.out,pi_go ltU lo hi s i k dk hs5 HK.out (by omega) (by omega),HDJ.out,HDU.out]⟩
                  case measure=>simp [intOf];omega
                . have hl:G j1 < G (j1 - 1):=by first | assumption | omega | exact of_not_f ‹(!decide (G j1 < G (j1 - 1)))=false›
                  have HS3:Hid (SIn w (wr.drewN nq) b o d dj):=HS.out.drew nq
                  clear HS hc hf
                  generalize wr.drewN nq=W3 at HS3 ⊢
                  obtain ⟨hc,hf⟩:=HS3.out.cell HG.out
                  go_wp2
                  go_region
                  all_goals go_wp2
                  go_roundw
                  case rel=>
                   refine ⟨j1 - 1,swp dj j1 (j1 - 1),by congr 1;omega,by omega,?_,?_⟩
                   . rw [HG.out,HG.out];exact HS3.out.swap 1 j1 (j1 - 1) (by omega) (by omega)
                   . rw [<- HU.out];exact (shiftDown_go ltU j1 dj hjb (by unfold ltU;rw [<- HG.out,<- HG.out];exact decide_eq_true hl)).symm
                  case measure=>simp [intOf];omega
              . go_wp2_with fail
                have HDJ:Hid (fixDown ltU lo k (swp dk k (k - 1))=dj):=by
                 show _=_
                 rw [<- HU.out];exact shiftDown_stop ltU j1 dj (.inl (by omega))
                have HSD:Hid (SIn w wr b o d dj):=HS.out
                clear HS hc hf HG HU
                have HDU:Hid (fixUp ltU hi k dj=dj):=if_neg hb2
                have HSU:Hid (SIn w wr b o d dj):=HSD.out
                go_roundw
                case rel=>exact ⟨k,s+1,dj,rfl,by go_num,by omega,by omega,by omega,HSU.out,by rw [<- HR.out,pi_go ltU lo hi s i k dk hs5 HK.out (by omega) (by omega),HDJ.out,HDU.out]⟩
                case measure=>simp [intOf];omega
           . exfalso;omega
     . (try go_wp2_with fail);go_quiet ((go_at_call 182;exact Calls.quiet_of_same (less32 _ _ _)))
       have HK:Hid (scanSorted ltU dk hi i=hi):=by
        show _=_
        rw [<- HU.out,show k=hi by omega];exact scanSorted_stop ltU dk hi hi (.inl (by omega))
       have hke:k=hi:=by omega
       subst hke
       have HS3:Hid (SIn w (wr.drewN nq) b o d dk):=HS.out.drew nq
       clear HS HU hc hf
       generalize wr.drewN nq=W3 at HS3 ⊢
       go_wp2
       go_ret
       exact ⟨dk,true,HR.out.symm.trans (pi_true ltU lo k s i dk hs5 HK.out),rfl,HS3.out⟩
  . go_wp2
    go_ret
    have hs6:s=5:=by omega
    subst hs6
    exact ⟨dk,false,HR.out.symm.trans (pi_end ltU lo hi i dk),rfl,HS.out⟩
end Go.Proofs.YtcfngdnmpogaoaaGreat
