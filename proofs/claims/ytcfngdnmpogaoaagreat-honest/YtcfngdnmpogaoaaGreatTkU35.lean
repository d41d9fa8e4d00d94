import Derived.Test.YtcfngdnmpogaoaaGreatTkT02
import Derived.Sort.WalkA
import Derived.Sort.AssemblyPlain
import Derived.Sort.LotD4
import Derived.Sort.Grow
namespace Go.Proofs.YtcfngdnmpogaoaaGreat
open Go.RowKit
theorem isNaN32 (x:Int) (w:World):Calls Tryz.prog 189 #[.int .u32 x] w fun e w'=>e=.returned (.bool false)/\w'=w:=by
 go_enter Tryz.func189,Tryz.ntmps189
 go_wp2
 go_ret
 exact ⟨rfl,rfl⟩
theorem less32 (x y:Int) (w:World):Calls Tryz.prog 182 #[.int .u32 x,.int .u32 y] w fun e w'=>e=.returned (.bool (decide (x < y)))/\w'=w:=by
 have n0:=fun x=>isNaN32 x
 by_cases h:x < y
 . rw [decide_eq_true h]
   go_enter Tryz.func182,Tryz.ntmps182
   go_wp2_with (go_at_call 189;refine (n0 _ _).mono ?_;rintro e w' ⟨rfl,rfl⟩)
   go_ret
   exact ⟨rfl,rfl⟩
 . go_enter Tryz.func182,Tryz.ntmps182
   go_wp2_with (go_at_call 189;refine (n0 _ _).mono ?_;rintro e w' ⟨rfl,rfl⟩)
   go_ret
   exact ⟨rfl,rfl⟩
end Go.Proofs.YtcfngdnmpogaoaaGreat
namespace Go.Proofs.YtcfngdnmpogaoaaGreat
open Go.RowKit Go.Sort
variable {b o:Nat} {d dk:Array Int} {w wr:World}
set_option maxHeartbeats 1600000
abbrev encU:Int->Value:=Value.int .u32
def ltU (x y:Int):Bool:=decide (x < y)
structure SIn (w wr:World) (b o:Nat) (d dk:Array Int):Prop where
 size:dk.size=d.size
 was:Holds encU w b o d
 eq:∃ n,wr=putRow encU (Sort.ahead w n) b o dk
theorem SIn.start (h:Holds encU w b o d):SIn w w b o d d:=⟨rfl,h,0,(putRow_self _ _ _ _ _ h).symm⟩
theorem SIn.cell (h:SIn w wr b o d dk) {G:Nat->Int} (hG:∀ t,G t=dk[t]!):(∀ t,t < d.size->wr.cell? ⟨b,o+t,none⟩=some (.int .u32 (G t)))/\∀ t,t < d.size->wr.frozen? ⟨b,o+t,none⟩=false:=by
 obtain ⟨h1,h2,n,rfl⟩:=h
 refine ⟨fun t ht=>?_,fun t ht=>?_⟩
 . rw [hG];exact cell?_putRow _ _ _ _ d dk (holds_ahead _ _ _ _ _ _ h2) h1 t (by omega)
 . rw [frozen?_putRow];exact (h2 t ht).2
theorem SIn.drew (h:SIn w wr b o d dk) (q:Nat):SIn w (wr.drewN q) b o d dk:=by
 obtain ⟨h1,h2,n,rfl⟩:=h
 exact ⟨h1,h2,n+q,putRow_drewN _ _ _ _ _ _ _⟩
theorem SIn.swap (h:SIn w wr b o d dk) (q i j:Nat) (hi:i < d.size) (hj:j < d.size):SIn w (((wr.drewN q).setCell ⟨b,o+i,none⟩ (.int .u32 dk[j]!)).setCell ⟨b,o+j,none⟩ (.int .u32 dk[i]!)) b o d (swp dk i j):=by
 obtain ⟨h1,h2,n,rfl⟩:=h
 exact ⟨by rw [size_swp];exact h1,h2,n+q,swap_worldA encU w n q b o dk i j (by omega) (by omega)⟩
theorem SIn.trans {w1 w2:World} {d1 d2:Array Int} (h:SIn w w1 b o d d1) (h2:SIn w1 w2 b o d1 d2):SIn w w2 b o d d2:=by
 obtain ⟨a1,a2,n,rfl⟩:=h
 obtain ⟨b1,b2,m,rfl⟩:=h2
 exact ⟨b1.trans a1,a2,n+m,putRow_ahead_putRow _ _ _ _ _ _ _ _ b1⟩
theorem SIn.holds (h:SIn w wr b o d dk):Holds encU wr b o dk:=by
 obtain ⟨h1,h2,n,rfl⟩:=h
 exact holds_putRow _ _ _ _ d dk (holds_ahead _ _ _ _ _ _ h2) h1
theorem of_not_t {p:Prop} [Decidable p] (h:(!decide p)=true):¬ p:=by simpa using h
theorem of_not_f {p:Prop} [Decidable p] (h:(!decide p)=false):p:=by simpa using h
theorem ins32 (b o c lo hi:Nat) (d:Array Int) (w:World) (hd:Holds encU w b o d) (h1:lo<=hi) (h2:hi<=d.size) (h3:d.size < 4611686018427387904) :
 Calls Tryz.prog 176 #[.slice (some ⟨b,o,none⟩) d.size c,.int .i64 lo,.int .i64 hi] w fun e w'=>e=.returned (.tuple #[])/\SIn w w' b o d (insertionSort ltU d lo hi):=by
 obtain ⟨R,HR⟩:∃ R,Hid (insertionSort ltU d lo hi=R):=⟨_,rfl⟩
 rw [HR.out]
 have HS0:Hid (SIn w w b o d d/\insOuter ltU lo hi (lo+1) d=R):=⟨.start hd,HR.out⟩
 clear HR hd
 go_enter Tryz.func176,Tryz.ntmps176
 go_wp2
 go_loopw [6] (fun vi wr=>∃ (i:Nat) (dk:Array Int),vi=.int .i64 (i:Int)/\lo < i/\i<=hi+1/\SIn w wr b o d dk/\insOuter ltU lo hi i dk=R) (fun vi _=>hi+1 - (intOf vi).toNat)
 case atStart=>exact ⟨lo+1,d,by go_num,by omega,by omega,HS0.out.1,HS0.out.2⟩
 case round=>
  clear HS0
  obtain ⟨i,dk,rfl,hli,hih,hs,ho⟩:=hrel
  have HS:=hid hs
  have HO:=hid ho
  clear hs ho
  go_wp2
  . have hlt:i < hi:=by assumption
    go_loopw [7] (fun vj wr=>∃ (j:Nat) (dj:Array Int),vj=.int .i64 (j:Int)/\lo<=j/\j<=i/\SIn w wr b o d dj/\insInner ltU lo j dj=insInner ltU lo i dk) (fun vj _=>(intOf vj).toNat)
    case atStart=>exact ⟨i,dk,rfl,by omega,Nat.le_refl _,HS.out,rfl⟩
    case round=>
     clear HS
     obtain ⟨j,dj,rfl,hlj,hji,hs,hI⟩:=hrel
     obtain ⟨G,hG⟩:∃ G:Nat->Int,∀ t,G t=dj[t]!:=⟨fun t=>dj[t]!,fun _=>rfl⟩
     obtain ⟨hc,hf⟩:=hs.cell hG
     have HS:=hid hs
     have HI:=hid hI
     have HG:=hid hG
     have HEnd:Hid ((j<=lo\/ltU dj[j]! dj[j - 1]! = false)->insOuter ltU lo hi (i+1) dj=R):=fun hst=>by
      rw [<- HO.out,insOuter_go _ _ _ _ _ hlt,<- hI,insInner_stop _ _ _ _ hst]
     clear hs hI hG
     go_wp2
     by_cases hja:lo < j
     . go_quiet ((go_at_call 182;exact Calls.quiet_of_same (less32 _ _ _)))
       go_wp2
       . have hl:G j < G (j - 1):=by assumption
         go_region
         all_goals go_wp2
         go_roundw
         case rel=>
          refine ⟨j - 1,swp dj j (j - 1),by congr 1;omega,by omega,by omega,?_,?_⟩
          . rw [HG.out,HG.out]
            exact HS.out.swap (nq+1) j (j - 1) (by omega) (by omega)
          . rw [<- HI.out,insInner_go ltU lo j dj hja (by unfold ltU;rw [<- HG.out,<- HG.out];exact decide_eq_true hl)]
         case measure=>simp [intOf];omega
       . have hl:¬ G j < G (j - 1):=by first | assumption | omega
         go_roundw
         case rel=>exact ⟨i+1,dj,by go_num,by omega,by omega,HS.out.drew nq,HEnd.out (.inr (by unfold ltU;rw [<- HG.out,<- HG.out];exact decide_eq_false hl))⟩
         case measure=>simp [intOf];omega
     . go_quiet ((go_at_call 182;exact Calls.quiet_of_same (less32 _ _ _)))
       go_wp2
       go_roundw
       case rel=>exact ⟨i+1,dj,by go_num,by omega,by omega,HS.out.drew nq,HEnd.out (.inl (by omega))⟩
       case measure=>simp [intOf];omega
  . have hge:¬ i < hi:=by assumption
    go_end0
    have h9:=HO.out
    rw [insOuter_stop _ _ _ _ _ hge] at h9
    exact ⟨rfl,by rw [<- h9];exact HS.out⟩
end Go.Proofs.YtcfngdnmpogaoaaGreat
namespace Go.Proofs.YtcfngdnmpogaoaaGreat
open Go.RowKit Go.Sort
set_option maxHeartbeats 1600000
theorem rev_go (i j:Nat) (d:Array Int) (h:i < j):reverseLoop i j d=reverseLoop (i+1) (j - 1) (swp d i j):=by rw [reverseLoop,if_pos h]
theorem rev_out (i j:Nat) (d:Array Int) (h:¬ i < j):reverseLoop i j d=d:=by rw [reverseLoop,if_neg h]
theorem rev32 (b o c lo hi:Nat) (d:Array Int) (w:World) (hd:Holds encU w b o d) (h1:lo < hi) (h2:hi<=d.size) (h3:d.size < 4611686018427387904) :
 Calls Tryz.prog 180 #[.slice (some ⟨b,o,none⟩) d.size c,.int .i64 lo,.int .i64 hi] w fun e w'=>e=.returned (.tuple #[])/\SIn w w' b o d (reverseRange d lo hi):=by
 obtain ⟨R,HR0⟩:∃ R,Hid (reverseRange d lo hi=R):=⟨_,rfl⟩
 rw [HR0.out]
 have HS0:Hid (SIn w w b o d d):=.start hd
 clear hd
 go_enter Tryz.func180,Tryz.ntmps180
 go_wp2
 go_loopw [6,7] (fun vi vj wr=>∃ (i j:Nat) (dk:Array Int),vi=.int .i64 (i:Int)/\vj=.int .i64 (j:Int)/\i<=d.size/\j < d.size/\SIn w wr b o d dk/\reverseLoop i j dk=R) (fun vi _ _=>d.size+1 - (intOf vi).toNat)
 case atStart=>exact ⟨lo,hi - 1,d,rfl,by congr 1;omega,by omega,by omega,HS0.out,HR0.out⟩
 case round=>
  clear HS0 HR0
  obtain ⟨i,j,dk,rfl,rfl,hi1,hj1,hsi,hR⟩:=hrel
  obtain ⟨G,hG⟩:∃ G:Nat->Int,∀ t,G t=dk[t]!:=⟨fun t=>dk[t]!,fun _=>rfl⟩
  obtain ⟨hc,hf⟩:=hsi.cell hG
  have HS:=hid hsi
  have HR:=hid hR
  have HG:=hid hG
  clear hsi hR hG
  go_wp2
  . have hij:i < j:=by assumption
    go_region
    all_goals go_wp2
    go_roundw
    case rel=>
     refine ⟨i+1,j - 1,swp dk i j,by go_num,by congr 1;omega,by omega,by omega,?_,by rw [<- HR.out,rev_go i j dk hij]⟩
     rw [HG.out,HG.out]
     exact HS.out.swap 1 i j (by omega) (by omega)
    case measure=>simp [intOf];omega
  . have hij:¬ i < j:=by first | assumption | omega
    go_end0
    have h9:=HR.out
    rw [rev_out i j dk hij] at h9
    exact ⟨rfl,by rw [<- h9];exact HS.out⟩
end Go.Proofs.YtcfngdnmpogaoaaGreat
namespace Go.Proofs.YtcfngdnmpogaoaaGreat
open Go.RowKit Go.Sort
set_option maxHeartbeats 3200000
def childU (hi f r:Nat) (d:Array Int):Nat:=if 2*r+1+1 < hi && ltU d[f+(2*r+1)]! d[f+(2*r+1)+1]! then 2*r+2 else 2*r+1
theorem sift_out (hi f r:Nat) (d:Array Int) (h:hi<=2*r+1):siftDown ltU hi f r d=d:=by
 rw [siftDown,dif_pos h]
theorem sift_stop (hi f r:Nat) (d:Array Int) (h:2*r+1 < hi) (hs:ltU d[f+r]! d[f+childU hi f r d]! = false):siftDown ltU hi f r d=d:=by
 unfold childU at hs
 rw [siftDown,dif_neg (by omega)]
 split at hs
 . next hc=>rw [if_pos hc,hs];rfl
 . next hc=>rw [if_neg hc,hs];rfl
theorem sift_go (hi f r:Nat) (d:Array Int) (h:2*r+1 < hi) (hs:ltU d[f+r]! d[f+childU hi f r d]! = true):siftDown ltU hi f r d=siftDown ltU hi f (childU hi f r d) (swp d (f+r) (f+childU hi f r d)):=by
 unfold childU at hs ⊢
 rw [siftDown,dif_neg (by omega)]
 split at hs
 . next hc=>
   have h2:2*r+2 < hi:=by
    rw [Bool.and_eq_true] at hc
    have:=of_decide_eq_true hc.1
    omega
   rw [if_pos hc,hs,dif_pos h2]
   simp only [Bool.not_true,Bool.false_eq_true,if_false,if_pos hc]
 . next hc=>
   rw [if_neg hc,hs]
   simp only [Bool.not_true,Bool.false_eq_true,if_false,if_neg hc]
theorem sift32 (b o c r0 hi f:Nat) (d:Array Int) (w:World) (hd:Holds encU w b o d) (h1:f+hi<=d.size) (h2:r0 < d.size) (h3:d.size < 2305843009213693952) :
 Calls Tryz.prog 186 #[.slice (some ⟨b,o,none⟩) d.size c,.int .i64 r0,.int .i64 hi,.int .i64 f] w fun e w'=>e=.returned (.tuple #[])/\SIn w w' b o d (siftDown ltU hi f r0 d):=by
 obtain ⟨R,HR0⟩:∃ R,Hid (siftDown ltU hi f r0 d=R):=⟨_,rfl⟩
 rw [HR0.out]
 have HS0:Hid (SIn w w b o d d):=.start hd
 clear hd
 go_enter Tryz.func186,Tryz.ntmps186
 go_wp2
 go_loopw [8] (fun v wr=>∃ (r:Nat) (dk:Array Int),v=.int .i64 (r:Int)/\r < d.size/\SIn w wr b o d dk/\siftDown ltU hi f r dk=R) (fun v _=>d.size - (intOf v).toNat)
 case atStart=>exact ⟨r0,d,rfl,h2,HS0.out,HR0.out⟩
 case round=>
  clear HS0 HR0
  obtain ⟨r,dk,rfl,hr,hsi,hR⟩:=hrel
  obtain ⟨G,hG⟩:∃ G:Nat->Int,∀ t,G t=dk[t]!:=⟨fun t=>dk[t]!,fun _=>rfl⟩
  obtain ⟨hc,hf⟩:=hsi.cell hG
  have HS:=hid hsi
  have HR:=hid hR
  have HG:=hid hG
  clear hsi hR hG
  go_wp2
  . go_end0
    have h9:=HR.out
    rw [sift_out hi f r dk (by omega)] at h9
    exact ⟨rfl,by rw [<- h9];exact HS.out⟩
  . have hlt:2*r+1 < hi:=by omega
    obtain ⟨C,hCe,hCn⟩:∃ C:Nat,2*(r:Int)+1=(C:Int)/\C=2*r+1:=⟨2*r+1,by omega,rfl⟩
    rw [hCe]
    have HCe:=hid hCe
    have HCn:=hid hCn
    have hCh:C < hi:=by omega
    have hrC:r < C:=by omega
    have w1:IntKind.i64.wrap ((C:Int)+1)=(C:Int)+1:=by rw [IntKind.wrap_i64];omega
    have w2:IntKind.i64.wrap ((f:Int)+(C:Int))=(f:Int)+(C:Int):=by rw [IntKind.wrap_i64];omega
    have w3:IntKind.i64.wrap ((f:Int)+(C:Int)+1)=(f:Int)+(C:Int)+1:=by rw [IntKind.wrap_i64];omega
    have w4:IntKind.i64.wrap ((f:Int)+(r:Int))=(f:Int)+(r:Int):=by rw [IntKind.wrap_i64];omega
    clear hCe hCn hlt
    by_cases hc2:C+1 < hi
    . have hcI:(C:Int)+1 < (hi:Int):=by omega
      by_cases hl:G (f+C) < G (f+C+1)
      . go_quiet ((go_at_call 182;exact Calls.quiet_of_same (less32 _ _ _)))
        go_wp2
        obtain ⟨K,hKe,hKn⟩:∃ K:Nat,(C:Int)+1=(K:Int)/\K=C+1:=⟨C+1,by omega,rfl⟩
        rw [hKe]
        have HKn:=hid hKn
        have hKh:K < hi:=by omega
        have hrK:r < K:=by omega
        have w5:IntKind.i64.wrap ((f:Int)+(K:Int))=(f:Int)+(K:Int):=by rw [IntKind.wrap_i64];omega
        clear hKe hKn
        have hC:childU hi f r dk=K:=by
         unfold childU ltU
         rw [<- HG.out,<- HG.out,<- HCn.out]
         simp [hc2,hl] <;> (have:=HCn.out;have:=HKn.out;omega)
        have HC:=hid hC
        clear hC
        obtain ⟨hc',hf'⟩:=(HS.out.drew nq).cell HG.out
        have HS1:=hid (HS.out.drew nq)
        clear hc hf HS
        generalize wr.drewN nq=W1 at *
        by_cases hs:G (f+r) < G (f+(K))
        . go_quiet ((go_at_call 182;exact Calls.quiet_of_same (less32 _ _ _)))
          go_wp2
          go_region
          all_goals go_wp2
          go_roundw
          case rel=>
           refine ⟨K,swp dk (f+r) (f+(K)),by go_num,by omega,?_,?_⟩
           . rw [HG.out,HG.out]
             exact HS1.out.swap _ (f+r) (f+(K)) (by omega) (by omega)
           . rw [<- HR.out,sift_go hi f r dk (by have:=HCn.out;omega) (by rw [HC.out];unfold ltU;rw [<- HG.out,<- HG.out];exact decide_eq_true hs),HC.out]
          case measure=>simp [intOf];omega
        . go_quiet ((go_at_call 182;exact Calls.quiet_of_same (less32 _ _ _)))
          go_wp2
          refine bodyPost_ret (results_none rfl _ _ _) rfl ⟨rfl,?_⟩
          have h9:=HR.out
          rw [sift_stop hi f r dk (by have:=HCn.out;omega) (by rw [HC.out];unfold ltU;rw [<- HG.out,<- HG.out];exact decide_eq_false (by omega))] at h9
          rw [<- h9]
          exact HS1.out.drew _
      . go_quiet ((go_at_call 182;exact Calls.quiet_of_same (less32 _ _ _)))
        go_wp2
        have hC:childU hi f r dk=C:=by
         unfold childU ltU
         rw [<- HG.out,<- HG.out,<- HCn.out]
         simp [hc2] <;> (have:=HCn.out;omega)
        have HC:=hid hC
        clear hC
        obtain ⟨hc',hf'⟩:=(HS.out.drew nq).cell HG.out
        have HS1:=hid (HS.out.drew nq)
        clear hc hf HS
        generalize wr.drewN nq=W1 at *
        by_cases hs:G (f+r) < G (f+(C))
        . go_quiet ((go_at_call 182;exact Calls.quiet_of_same (less32 _ _ _)))
          go_wp2
          go_region
          all_goals go_wp2
          go_roundw
          case rel=>
           refine ⟨C,swp dk (f+r) (f+(C)),by go_num,by omega,?_,?_⟩
           . rw [HG.out,HG.out]
             exact HS1.out.swap _ (f+r) (f+(C)) (by omega) (by omega)
           . rw [<- HR.out,sift_go hi f r dk (by have:=HCn.out;omega) (by rw [HC.out];unfold ltU;rw [<- HG.out,<- HG.out];exact decide_eq_true hs),HC.out]
          case measure=>simp [intOf];omega
        . go_quiet ((go_at_call 182;exact Calls.quiet_of_same (less32 _ _ _)))
          go_wp2
          refine bodyPost_ret (results_none rfl _ _ _) rfl ⟨rfl,?_⟩
          have h9:=HR.out
          rw [sift_stop hi f r dk (by have:=HCn.out;omega) (by rw [HC.out];unfold ltU;rw [<- HG.out,<- HG.out];exact decide_eq_false (by omega))] at h9
          rw [<- h9]
          exact HS1.out.drew _
    . have hcI:¬ (C:Int)+1 < (hi:Int):=by omega
      go_quiet ((go_at_call 182;exact Calls.quiet_of_same (less32 _ _ _)))
      go_wp2
      have hC:childU hi f r dk=C:=by
       unfold childU ltU
       rw [<- HG.out,<- HG.out,<- HCn.out]
       simp [hc2] <;> (have:=HCn.out;omega)
      have HC:=hid hC
      clear hC
      obtain ⟨hc',hf'⟩:=(HS.out.drew nq).cell HG.out
      have HS1:=hid (HS.out.drew nq)
      clear hc hf HS
      generalize wr.drewN nq=W1 at *
      by_cases hs:G (f+r) < G (f+(C))
      . go_quiet ((go_at_call 182;exact Calls.quiet_of_same (less32 _ _ _)))
        go_wp2
        go_region
        all_goals go_wp2
        go_roundw
        case rel=>
         refine ⟨C,swp dk (f+r) (f+(C)),by go_num,by omega,?_,?_⟩
         . rw [HG.out,HG.out]
           exact HS1.out.swap _ (f+r) (f+(C)) (by omega) (by omega)
         . rw [<- HR.out,sift_go hi f r dk (by have:=HCn.out;omega) (by rw [HC.out];unfold ltU;rw [<- HG.out,<- HG.out];exact decide_eq_true hs),HC.out]
        case measure=>simp [intOf];omega
      . go_quiet ((go_at_call 182;exact Calls.quiet_of_same (less32 _ _ _)))
        go_wp2
        refine bodyPost_ret (results_none rfl _ _ _) rfl ⟨rfl,?_⟩
        have h9:=HR.out
        rw [sift_stop hi f r dk (by have:=HCn.out;omega) (by rw [HC.out];unfold ltU;rw [<- HG.out,<- HG.out];exact decide_eq_false (by omega))] at h9
        rw [<- h9]
        exact HS1.out.drew _
end Go.Proofs.YtcfngdnmpogaoaaGreat
namespace Go.Proofs.YtcfngdnmpogaoaaGreat
open Go.RowKit Go.Sort
set_option maxHeartbeats 1600000
theorem heap32 (b o c lo hi:Nat) (d:Array Int) (w:World) (hd:Holds encU w b o d) (h1:lo < hi) (h2:hi<=d.size) (h3:d.size < 2305843009213693952) :
 Calls Tryz.prog 177 #[.slice (some ⟨b,o,none⟩) d.size c,.int .i64 lo,.int .i64 hi] w fun e w'=>e=.returned (.tuple #[])/\SIn w w' b o d (heapSort ltU d lo hi):=by
 obtain ⟨R,HR0⟩:∃ R,Hid (heapSort ltU d lo hi=R):=⟨_,rfl⟩
 rw [HR0.out]
 have HS0:Hid (SIn w w b o d d):=.start hd
 obtain ⟨n,hn,hn0⟩:∃ n:Nat,(hi:Int) - (lo:Int)=(n:Int)/\n=hi - lo:=⟨hi - lo,by omega,rfl⟩
 obtain ⟨m,hm,hm0⟩:∃ m:Nat,((n:Int) - 1).tdiv 2=(m:Int)/\m=(n - 1) / 2:=⟨(n - 1) / 2,by
  rw [show (n:Int) - 1=((n - 1:Nat):Int) by omega];rfl,rfl⟩
 have HR1:Hid (heapPop ltU lo n (heapBuild ltU n lo (m+1) d)=R):=by rw [<- HR0.out,hn0,hm0,hn0];rfl
 have hnd:lo+n<=d.size:=by omega
 have hmn:m < n:=by omega
 have HN0:Hid (n=hi - lo/\m=(n - 1) / 2):=⟨hn0,hm0⟩
 clear hd HR0 hn0 hm0
 go_enter Tryz.func177,Tryz.ntmps177
 go_wp2
 clear hn hm
 go_loopw [9] (fun v wr=>∃ (k:Nat) (dk:Array Int),v=.int .i64 ((k:Int) - 1)/\k<=m+1/\SIn w wr b o d dk/\heapPop ltU lo n (heapBuild ltU n lo k dk)=R) (fun v _=>(intOf v+1).toNat)
 case atStart=>exact ⟨m+1,d,by congr 1;omega,Nat.le_refl _,HS0.out,HR1.out⟩
 case round=>
  clear HS0 HR1
  obtain ⟨k,dk,rfl,hk,hsi,hR⟩:=hrel
  cases k with
  | succ k=>
    have HS:=hid hsi
    have HR:=hid hR
    have hsz:=hsi.size
    have hcall:=sift32 b o c k n lo dk wr hsi.holds (by omega) (by omega) (by omega)
    rw [hsz] at hcall
    have HCl:=hid hcall
    clear hsi hR hcall hsz
    have e1:((k+1:Nat):Int) - 1=(k:Int):=by omega
    rw [e1]
    clear e1
    go_wp2_with fail
    refine HCl.out.mono ?_
    rintro e W2 ⟨rfl,h9⟩
    have HN:=hid (HS.out.trans h9)
    clear h9
    go_wp2
    go_roundw
    case rel=>exact ⟨k,siftDown ltU n lo k dk,by go_num,by omega,HN.out,HR.out⟩
    case measure=>simp [intOf]
  | zero=>
    have HS:=hid hsi
    have HR:=hid hR
    clear hsi hR
    rw [show (((0:Nat):Int) - 1)=-1 from rfl]
    go_wp2_with fail
    go_loopw [10] (fun v wr=>∃ (k:Nat) (dk:Array Int),v=.int .i64 ((k:Int) - 1)/\k<=n/\SIn w wr b o d dk/\heapPop ltU lo k dk=R) (fun v _=>(intOf v+1).toNat)
    case atStart=>exact ⟨n,dk,rfl,Nat.le_refl _,HS.out,HR.out⟩
    case round=>
     clear HS HR
     obtain ⟨k,dk,rfl,hk,hsi,hR⟩:=hrel
     cases k with
     | succ k=>
       have HR:=hid hR
       obtain ⟨G,hG⟩:∃ G:Nat->Int,∀ t,G t=dk[t]!:=⟨fun t=>dk[t]!,fun _=>rfl⟩
       obtain ⟨hc,hf⟩:=hsi.cell hG
       have HS:=hid hsi
       have HG:=hid hG
       clear hsi hR hG
       have e1:((k+1:Nat):Int) - 1=(k:Int):=by omega
       rw [e1]
       clear e1
       have w4:IntKind.i64.wrap ((lo:Int)+(k:Int))=(lo:Int)+(k:Int):=by rw [IntKind.wrap_i64];omega
       obtain ⟨v3,hy3⟩:=cell?_setCell_some (w:=wr) (p:=⟨b,o+lo,none⟩) (x:=.int .u32 (G (lo+k))) (q:=⟨b,o+(lo+k),none⟩) (hc (lo+k) (by omega))
       have hz0:(0:Int)<=(k:Int):=by omega
       go_wp2_with fail
       go_region
       all_goals go_wp2_with fail
       have h8:=HS.out.swap 1 lo (lo+k) (by omega) (by omega)
       rw [<- HG.out,<- HG.out] at h8
       have h8:SIn w ((wr.setCell ⟨b,o+lo,none⟩ (.int .u32 (G (lo+k)))).setCell ⟨b,o+(lo+k),none⟩ (.int .u32 (G lo))).drew b o d (swp dk lo (lo+k)):=h8
       generalize ((wr.setCell ⟨b,o+lo,none⟩ (.int .u32 (G (lo+k)))).setCell ⟨b,o+(lo+k),none⟩ (.int .u32 (G lo))).drew=W3 at h8 ⊢
       have hsz:=h8.size
       have hcall:=sift32 b o c 0 k lo _ W3 h8.holds (by omega) (by omega) (by omega)
       rw [hsz] at hcall
       change Calls Tryz.prog 186 #[.slice (some ⟨b,o,none⟩) d.size c,.int .i64 0,.int .i64 (k:Int),.int .i64 (lo:Int)] W3 _ at hcall
       clear hc hf
       refine hcall.mono ?_
       rintro e W4 ⟨rfl,h9⟩
       have HN:=hid (h8.trans h9)
       clear h9 h8 hcall hsz
       go_wp2
       go_roundw
       case rel=>exact ⟨k,_,rfl,by omega,HN.out,HR.out⟩
       case measure=>simp [intOf]
     | zero=>
       go_wp2_with fail
       go_end0
       exact ⟨rfl,by have h9:dk=R:=hR;rw [<- h9];exact hsi⟩
end Go.Proofs.YtcfngdnmpogaoaaGreat
namespace Go.Proofs.YtcfngdnmpogaoaaGreat
open Go.RowKit Go.Sort
set_option maxHeartbeats 1600000
def cw (w:World) (s n:Nat):World:=(w.alloc (.cells #[.int .i64 (s:Int)] 3)).drewN n
theorem cw_cell (w:World) (s n:Nat):(cw w s n).cell? ⟨w.heap.size,0,none⟩=some (.int .i64 (s:Int)):=by
 unfold cw;rw [World.cell?_drewN,World.cell?_alloc_at _ _ _ _ rfl];rfl
theorem cw_fro (w:World) (s n:Nat):(cw w s n).frozen? ⟨w.heap.size,0,none⟩=false:=by
 unfold cw;rw [World.frozen?_drewN,World.frozen?_alloc_at _ _ _ _ rfl]
theorem cw_row {w:World} {b o:Nat} {d:Array Int} (h:Holds encU w b o d) (hb:b < w.heap.size) (s n:Nat):Holds encU (cw w s n) b o d:=by
 have h1:=holds_grow encU w #[.cells #[.int .i64 (s:Int)] 3] b o d hb h
 rw [<- alloc_eq_grow] at h1
 exact h1
theorem cw_set (w:World) (s t n:Nat):(cw w s n).setCell ⟨w.heap.size,0,none⟩ (.int .i64 (t:Int))=cw w t n:=by
 unfold cw
 rw [alloc_eq_grow,alloc_eq_grow]
 change (grow (w.drewN n) #[.cells #[.int .i64 (s:Int)] 3]).setCell _ _=grow (w.drewN n) #[.cells #[.int .i64 (t:Int)] 3]
 rw [setCell_eq,mapBlock_grow_new (w.drewN n) _ w.heap.size _ (Nat.le_refl _)]
 simp [onCells]
theorem cw_drew (w:World) (s n q:Nat):(cw w s n).drewN q=cw w s (n+q):=by unfold cw;rw [World.drewN_drewN]
theorem cw_grow (w:World) (s n:Nat):∃ m os,cw w s n=grow (Sort.ahead w m) os:=⟨n,#[.cells #[.int .i64 (s:Int)] 3],by unfold cw;rw [alloc_eq_grow];rfl⟩
theorem ord_in {d:Array Int} {x y s p q t:Nat} (h:order2 ltU d x y s=(p,q,t)) (hx:x < d.size) (hy:y < d.size):p < d.size/\q < d.size/\t<=s+1:=by
 have h1:=order2_mem ltU d x y s
 have h2:=order2_count ltU d x y s
 rw [h] at h1 h2
 rcases h1 with ⟨rfl,rfl⟩ | ⟨rfl,rfl⟩
 . exact ⟨hx,hy,h2⟩
 . exact ⟨hy,hx,h2⟩
theorem ord32 (b o c x y s n:Nat) (d:Array Int) (w:World) (hd:Holds encU w b o d) (hb:b < w.heap.size) (hx:x < d.size) (hy:y < d.size) (_hsz:d.size < 2305843009213693952) (hs:s < 1000) :
 Calls Tryz.prog 191 #[.slice (some ⟨b,o,none⟩) d.size c,.int .i64 x,.int .i64 y,.pointer (some ⟨w.heap.size,0,none⟩)] (cw w s n) fun e w'=>∃ p q t m:Nat,order2 ltU d x y s=(p,q,t)/\e=.returned (.tuple #[.int .i64 p,.int .i64 q])/\w'=cw w t m:=by
 obtain ⟨G,hG⟩:∃ G:Nat->Int,∀ t,G t=d[t]!:=⟨fun t=>d[t]!,fun _=>rfl⟩
 obtain ⟨hc,hf⟩:=(SIn.start (cw_row hd hb s n)).cell hG
 have HG:=hid hG
 have h1:=cw_cell w s n
 have h2:=cw_fro w s n
 have hcx:=hc x hx
 have hcy:=hc y hy
 have HN:Hid (∀ t q:Nat,((cw w s n).drewN q).setCell ⟨w.heap.size,0,none⟩ (.int .i64 (t:Int))=cw w t (n+q)):=fun t q=>by rw [cw_drew,cw_set]
 have HD:Hid (∀ q,(cw w s n).drewN q=cw w s (n+q)):=fun q=>cw_drew w s n q
 obtain ⟨H,HH⟩:∃ H,Hid (w.heap.size=H):=⟨_,rfl⟩
 have HE:Hid (∀ t m,cw w t m=cw w t m):=fun _ _=>rfl
 clear hG hd hc hf HE
 rw [HH.out] at h1 h2 HN ⊢
 generalize hW:cw w s n=W at *
 clear hW
 go_enter Tryz.func191,Tryz.ntmps191
 go_wp2
 go_quiet ((go_at_call 182;exact Calls.quiet_of_same (less32 _ _ _)))
 go_wp2
 . have hl:G y < G x:=by first | assumption | omega
   refine bodyPost_ret (v:=.tuple #[.int .i64 y,.int .i64 x]) (by simp [results,Tryz.results191,go_sem]) rfl ?_
   refine ⟨y,x,s+1,n+nq,?_,rfl,HN.out (s+1) nq⟩
   unfold order2
   rw [if_pos (show ltU d[y]! d[x]! = true by unfold ltU;rw [<- HG.out,<- HG.out];exact decide_eq_true hl)]
 . have hl:¬ G y < G x:=by first | assumption | omega
   refine bodyPost_ret (v:=.tuple #[.int .i64 x,.int .i64 y]) (by simp [results,Tryz.results191,go_sem]) rfl ?_
   refine ⟨x,y,s,n+nq,?_,rfl,HD.out nq⟩
   unfold order2
   rw [if_neg (show ¬ ltU d[y]! d[x]! = true by unfold ltU;rw [<- HG.out,<- HG.out,decide_eq_false hl];exact Bool.false_ne_true)]
theorem med32 (b o c x y z s n:Nat) (d:Array Int) (w:World) (hd:Holds encU w b o d) (hb:b < w.heap.size) (hx:x < d.size) (hy:y < d.size) (hz:z < d.size) (hsz:d.size < 2305843009213693952) (hs:s < 900) :
 Calls Tryz.prog 188 #[.slice (some ⟨b,o,none⟩) d.size c,.int .i64 x,.int .i64 y,.int .i64 z,.pointer (some ⟨w.heap.size,0,none⟩)] (cw w s n) fun e w'=>∃ p t m:Nat,median ltU d x y z s=(p,t)/\p < d.size/\t<=s+3/\e=.returned (.int .i64 p)/\w'=cw w t m:=by
 go_enter Tryz.func188,Tryz.ntmps188
 go_wp2_with fail
 refine (ord32 b o c x y s n d w hd hb hx hy hsz (by omega)).mono ?_
 rintro e W ⟨p1,q1,t1,m1,e1,rfl,rfl⟩
 have r1:=ord_in e1 hx hy
 go_wp2_with fail
 refine (ord32 b o c q1 z t1 m1 d w hd hb r1.2.1 hz hsz (by omega)).mono ?_
 rintro e W ⟨p2,q2,t2,m2,e2,rfl,rfl⟩
 have r2:=ord_in e2 r1.2.1 hz
 go_wp2_with fail
 refine (ord32 b o c p1 p2 t2 m2 d w hd hb r1.1 r2.1 hsz (by omega)).mono ?_
 rintro e W ⟨p3,q3,t3,m3,e3,rfl,rfl⟩
 have r3:=ord_in e3 r1.1 r2.1
 go_wp2_with fail
 go_ret
 exact ⟨q3,t3,m3,by unfold median;simp only [e1,e2,e3],r3.2.1,by omega,rfl,rfl⟩
theorem medA32 (b o c x s n:Nat) (d:Array Int) (w:World) (hd:Holds encU w b o d) (hb:b < w.heap.size) (h0:1<=x) (hx:x+1 < d.size) (hsz:d.size < 2305843009213693952) (hs:s < 900) :
 Calls Tryz.prog 187 #[.slice (some ⟨b,o,none⟩) d.size c,.int .i64 x,.pointer (some ⟨w.heap.size,0,none⟩)] (cw w s n) fun e w'=>∃ p t m:Nat,medianAdjacent ltU d x s=(p,t)/\p < d.size/\t<=s+3/\e=.returned (.int .i64 p)/\w'=cw w t m:=by
 have e1:(x:Int) - 1=((x - 1:Nat):Int):=by omega
 have e2:(x:Int)+1=((x+1:Nat):Int):=by omega
 have HC:Hid (Calls Tryz.prog 188 #[.slice (some ⟨b,o,none⟩) d.size c,.int .i64 ((x:Int) - 1),.int .i64 (x:Int),.int .i64 ((x:Int)+1),.pointer (some ⟨w.heap.size,0,none⟩)] (cw w s n) fun e w'=>∃ p t m:Nat,median ltU d (x - 1) x (x+1) s=(p,t)/\p < d.size/\t<=s+3/\e=.returned (.int .i64 p)/\w'=cw w t m):=by
  rw [e1,e2];exact med32 b o c (x - 1) x (x+1) s n d w hd hb (by omega) (by omega) hx hsz hs
 clear e1 e2
 go_enter Tryz.func187,Tryz.ntmps187
 go_wp2_with fail
 refine HC.out.mono ?_
 rintro e W ⟨p,t,m,h1,h2,h4,rfl,rfl⟩
 go_wp2_with fail
 go_ret
 exact ⟨p,t,m,h1,h2,h4,rfl,rfl⟩
end Go.Proofs.YtcfngdnmpogaoaaGreat
namespace Go.Proofs.YtcfngdnmpogaoaaGreat
open Go.RowKit Go.Sort
set_option maxHeartbeats 6400000
set_option maxRecDepth 100000
theorem piv32 (b o c lo hi:Nat) (d:Array Int) (w:World) (hd:Holds encU w b o d) (hb:b < w.heap.size) (h1:lo+12 < hi) (h2:hi<=d.size) (h3:d.size < 2305843009213693952) :
 Calls Tryz.prog 179 #[.slice (some ⟨b,o,none⟩) d.size c,.int .i64 lo,.int .i64 hi] w fun e w'=>∃ (p:Nat) (h:Hint),choosePivot ltU d lo hi=(p,h)/\e=.returned (.tuple #[.int .i64 p,.int .i64 (hintCode h)])/\∃ m os,w'=grow (Sort.ahead w m) os:=by
 obtain ⟨R,HR0⟩:∃ R,Hid (choosePivot ltU d lo hi=R):=⟨_,rfl⟩
 rw [HR0.out]
 obtain ⟨L,hL,HL⟩:∃ L:Nat,(hi:Int) - (lo:Int)=(L:Int)/\Hid (L=hi - lo):=⟨hi - lo,by omega,rfl⟩
 obtain ⟨Q,hQ,HQ⟩:∃ Q:Nat,(L:Int) / 4=(Q:Int)/\Hid (Q=L / 4):=⟨L / 4,by omega,rfl⟩
 obtain ⟨I,hI,HI⟩:∃ I:Nat,(lo:Int)+(Q:Int)=(I:Int)/\Hid (I=lo+Q*1):=⟨lo+Q*1,by omega,rfl⟩
 obtain ⟨J,hJ,HJ⟩:∃ J:Nat,(lo:Int)+(Q:Int)*2=(J:Int)/\Hid (J=lo+Q*2):=⟨lo+Q*2,by omega,rfl⟩
 obtain ⟨K,hK,HK⟩:∃ K:Nat,(lo:Int)+(Q:Int)*3=(K:Int)/\Hid (K=lo+Q*3):=⟨lo+Q*3,by omega,rfl⟩
 have HRR:=hid (HR0.out.symm.trans (choosePivot_eq ltU d lo hi))
 have HW:Hid (w.alloc (.cells #[.int .i64 0] 3)=cw w 0 0):=rfl
 have HB:=hid hd
 clear HR0 hd
 have hL12:12 < L:=by omega
 go_enter Tryz.func179,Tryz.ntmps179
 by_cases h50:50<=L
 . have hQ12:12<=Q:=by omega
   go_wp2_with fail
   rw [HW.out]
   refine (medA32 b o c I 0 0 d w HB.out hb (by omega) (by omega) h3 (by omega)).mono ?_
   rintro e W ⟨p1,t1,m1,e1,r1,s1,rfl,rfl⟩
   go_wp2_with fail
   refine (medA32 b o c J t1 m1 d w HB.out hb (by omega) (by omega) h3 (by omega)).mono ?_
   rintro e W ⟨p2,t2,m2,e2,r2,s2,rfl,rfl⟩
   go_wp2_with fail
   refine (medA32 b o c K t2 m2 d w HB.out hb (by omega) (by omega) h3 (by omega)).mono ?_
   rintro e W ⟨p3,t3,m3,e3,r3,s3,rfl,rfl⟩
   go_wp2_with fail
   refine (med32 b o c p1 p2 p3 t3 m3 d w HB.out hb r1 r2 r3 h3 (by omega)).mono ?_
   rintro e W ⟨p,t,m,hp,hpl,htl,rfl,rfl⟩
   have HRP:Hid (rawPivot ltU d lo hi=median ltU d p1 p2 p3 t3):=by
    show _=_
    unfold rawPivot
    rw [<- HL.out,if_pos (by omega),if_pos h50,<- HQ.out,<- HI.out,<- HJ.out,<- HK.out]
    simp only [e1,e2,e3]
   have cc:=cw_cell w t m
   have HE:Hid (R=(p,hintOf t)):=by
    show _=_
    rw [HRR.out,HRP.out,hp]
   have HC:=hid (cw_grow w t m)
   clear HRR HRP hp
   generalize cw w t m=W1 at cc HC ⊢
   by_cases ht0:t=0
   . subst ht0
     change W1.cell? ⟨w.heap.size,0,none⟩=some (.int .i64 0) at cc
     go_wp2_with fail
     refine bodyPost_ret (v:=.tuple #[.int .i64 p,.int .i64 1]) (by simp [results,Tryz.results179,go_sem]) rfl ?_
     exact ⟨p,.increasing,HE.out,rfl,HC.out⟩
   . have hb0:((t:Int) == 0)=false:=by
      have:¬ (t:Int)=0:=by omega
      simpa using this
     by_cases ht12:t=12
     . subst ht12
       change W1.cell? ⟨w.heap.size,0,none⟩=some (.int .i64 12) at cc
       go_wp2_with fail
       refine bodyPost_ret (v:=.tuple #[.int .i64 p,.int .i64 2]) (by simp [results,Tryz.results179,go_sem]) rfl ?_
       exact ⟨p,.decreasing,HE.out,rfl,HC.out⟩
     . have hb12:((t:Int) == 12)=false:=by
        have:¬ (t:Int)=12:=by omega
        simpa using this
       have HE2:Hid (R=(p,.unknown)):=by
        show _=_
        rw [HE.out,hintOf,if_neg ht0,if_neg ht12]
       go_wp2_with fail
       refine bodyPost_ret (v:=.tuple #[.int .i64 p,.int .i64 0]) (by simp [results,Tryz.results179,go_sem]) rfl ?_
       exact ⟨p,.unknown,HE2.out,rfl,HC.out⟩
 . have HRP:Hid (rawPivot ltU d lo hi=median ltU d I J K 0):=by
    show _=_
    unfold rawPivot
    rw [<- HL.out,if_pos (by omega),if_neg (by omega),<- HQ.out,<- HI.out,<- HJ.out,<- HK.out]
   have hm:=med32 b o c I J K 0 0 d w HB.out hb (by omega) (by omega) (by omega) h3 (by omega)
   have Hm:=hid hm
   clear hm
   go_wp2_with fail
   rw [HW.out]
   refine Hm.out.mono ?_
   rintro e W ⟨p,t,m,hp,hpl,htl,rfl,rfl⟩
   clear Hm
   have cc:=cw_cell w t m
   have HE:Hid (R=(p,hintOf t)):=by
    show _=_
    rw [HRR.out,HRP.out,hp]
   have HC:=hid (cw_grow w t m)
   clear HRR HRP hp
   generalize cw w t m=W1 at cc HC ⊢
   by_cases ht0:t=0
   . subst ht0
     change W1.cell? ⟨w.heap.size,0,none⟩=some (.int .i64 0) at cc
     go_wp2_with fail
     refine bodyPost_ret (v:=.tuple #[.int .i64 p,.int .i64 1]) (by simp [results,Tryz.results179,go_sem]) rfl ?_
     exact ⟨p,.increasing,HE.out,rfl,HC.out⟩
   . have hb0:((t:Int) == 0)=false:=by
      have:¬ (t:Int)=0:=by omega
      simpa using this
     by_cases ht12:t=12
     . subst ht12
       change W1.cell? ⟨w.heap.size,0,none⟩=some (.int .i64 12) at cc
       go_wp2_with fail
       refine bodyPost_ret (v:=.tuple #[.int .i64 p,.int .i64 2]) (by simp [results,Tryz.results179,go_sem]) rfl ?_
       exact ⟨p,.decreasing,HE.out,rfl,HC.out⟩
     . have hb12:((t:Int) == 12)=false:=by
        have:¬ (t:Int)=12:=by omega
        simpa using this
       have HE2:Hid (R=(p,.unknown)):=by
        show _=_
        rw [HE.out,hintOf,if_neg ht0,if_neg ht12]
       go_wp2_with fail
       refine bodyPost_ret (v:=.tuple #[.int .i64 p,.int .i64 0]) (by simp [results,Tryz.results179,go_sem]) rfl ?_
       exact ⟨p,.unknown,HE2.out,rfl,HC.out⟩
end Go.Proofs.YtcfngdnmpogaoaaGreat
