import Derived.Test.YtcfngdnmpogaoaaGreatProg
import Derived.Shelf.SlSortCmp.WholeK
import Derived.Ground.SlsfProg
import Derived.Test.YtcfngdnmpogaoaaGreatTkU35
import Derived.Sort.Walk7
import Derived.Test.YtcfngdnmpogaoaaGreatTkU36
import Derived.Test.YtcfngdnmpogaoaaGreatTkU37
import Derived.Sort.Walk13
import Derived.Deep.CutRange
namespace Go.Proofs
open Go.Shelf
def Tryz.sortW_ren:Go.Shelf.Ren:=⟨fun | 6=>74 | 15=>106 | 14=>105 | 28=>138 | 29=>139 | 20=>130 | 21=>131 | 22=>132 | 23=>133 | 24=>134 | 25=>135 | 26=>136 | 27=>137 | 46=>155 | 47=>156 | 48=>157 | 49=>158 | 50=>159 | 57=>173 | n=>n,fun | 22=>54 | 24=>70 | 25=>153 | 3=>3 | 39=>143 | 0=>0 | 53=>26 | 55=>90 | 4=>4 | 46=>222 | 45=>221 | 50=>226 | 5=>5 | 9=>9 | 66=>247 | 70=>251 | 76=>264 | 77=>265 | n=>n,fun | n=>n⟩
theorem Tryz.sortW:Go.Proofs.SlLaysF0.n6 Tryz.prog Tryz.sortW_ren:={
 mixed:=by kernel_rfl
 f6:=⟨Tryz.f74.name,by decide,Tryz.func74.trans (congrArg some (by kernel_rfl))⟩
 f14:=⟨Tryz.f105.name,by decide,Tryz.func105.trans (congrArg some (by kernel_rfl))⟩
 f15:=Tryz.func106.trans (congrArg some (by kernel_rfl))
 f20:=⟨Tryz.f130.name,by decide,Tryz.func130.trans (congrArg some (by kernel_rfl))⟩
 f21:=⟨Tryz.f131.name,by decide,Tryz.func131.trans (congrArg some (by kernel_rfl))⟩
 f22:=⟨Tryz.f132.name,by decide,Tryz.func132.trans (congrArg some (by kernel_rfl))⟩
 f23:=⟨Tryz.f133.name,by decide,Tryz.func133.trans (congrArg some (by kernel_rfl))⟩
 f24:=⟨Tryz.f134.name,by decide,Tryz.func134.trans (congrArg some (by kernel_rfl))⟩
 f25:=⟨Tryz.f135.name,by decide,Tryz.func135.trans (congrArg some (by kernel_rfl))⟩
 f26:=⟨Tryz.f136.name,by decide,Tryz.func136.trans (congrArg some (by kernel_rfl))⟩
 f27:=⟨Tryz.f137.name,by decide,Tryz.func137.trans (congrArg some (by kernel_rfl))⟩
 f28:=Tryz.func138.trans (congrArg some (by kernel_rfl))
 f29:=Tryz.func139.trans (congrArg some (by kernel_rfl))
 f46:=⟨Tryz.f155.name,by decide,Tryz.func155.trans (congrArg some (by kernel_rfl))⟩
 f47:=Tryz.func156.trans (congrArg some (by kernel_rfl))
 f48:=Tryz.func157.trans (congrArg some (by kernel_rfl))
 f49:=⟨Tryz.f158.name,by decide,Tryz.func158.trans (congrArg some (by kernel_rfl))⟩
 f50:=⟨Tryz.f159.name,by decide,Tryz.func159.trans (congrArg some (by kernel_rfl))⟩
 f57:=⟨Tryz.f173.name,by decide,Tryz.func173.trans (congrArg some (by kernel_rfl))⟩
 t0:=Tryz.underlying0
 a0:=Tryz.isAgg0
 z0:=Tryz.sizeOf0
 v0:=Tryz.zeroValue0
 t3:=Tryz.underlying3
 a3:=Tryz.isAgg3
 z3:=Tryz.sizeOf3
 v3:=Tryz.zeroValue3
 t4:=Tryz.underlying4
 a4:=Tryz.isAgg4
 z4:=Tryz.sizeOf4
 v4:=Tryz.zeroValue4
 t5:=Tryz.underlying5
 a5:=Tryz.isAgg5
 z5:=Tryz.sizeOf5
 v5:=Tryz.zeroValue5
 t9:=Tryz.underlying9
 a9:=Tryz.isAgg9
 z9:=Tryz.sizeOf9
 v9:=Tryz.zeroValue9
 t22:=Tryz.underlying54
 a22:=Tryz.isAgg54
 z22:=Tryz.sizeOf54
 v22:=Tryz.zeroValue54
 t25:=Tryz.underlying153
 a25:=Tryz.isAgg153
 z25:=Tryz.sizeOf153
 v25:=Tryz.zeroValue153
 t39:=Tryz.underlying143
 a39:=Tryz.isAgg143
 z39:=Tryz.sizeOf143
 v39:=Tryz.zeroValue143
 t45:=Tryz.underlying221
 a45:=Tryz.isAgg221
 z45:=Tryz.sizeOf221
 v45:=Tryz.zeroValue221
 t46:=Tryz.underlying222
 a46:=Tryz.isAgg222
 z46:=Tryz.sizeOf222
 v46:=Tryz.zeroValue222
 t50:=Tryz.underlying226
 a50:=Tryz.isAgg226
 z50:=Tryz.sizeOf226
 v50:=Tryz.zeroValue226
 t53:=Tryz.underlying26
 a53:=Tryz.isAgg26
 z53:=Tryz.sizeOf26
 v53:=Tryz.zeroValue26
 t55:=Tryz.underlying90
 a55:=Tryz.isAgg90
 z55:=Tryz.sizeOf90
 v55:=Tryz.zeroValue90
 t66:=Tryz.underlying247
 a66:=Tryz.isAgg247
 z66:=Tryz.sizeOf247
 v66:=Tryz.zeroValue247
 t70:=Tryz.underlying251
 a70:=Tryz.isAgg251
 z70:=Tryz.sizeOf251
 v70:=Tryz.zeroValue251
 t76:=Tryz.underlying264
 a76:=Tryz.isAgg264
 z76:=Tryz.sizeOf264
 v76:=Tryz.zeroValue264
 t77:=Tryz.underlying265
 a77:=Tryz.isAgg265
 z77:=Tryz.sizeOf265
 v77:=Tryz.zeroValue265 }
end Go.Proofs
namespace Go.Proofs.YtcfngdnmpogaoaaGreat
open Go.RowKit Go.Sort Go.Shelf
set_option maxHeartbeats 6400000
set_option maxRecDepth 100000
theorem xnext (rb X:Nat) (hX:X < 18446744073709551616) (w:World) (hc:w.cell? ⟨rb,0,none⟩=some (.int .u64 X)) (hf:w.frozen? ⟨rb,0,none⟩=false) :
 Calls Tryz.prog 157 #[.pointer (some ⟨rb,0,none⟩)] w fun e w'=>e=.returned (.int .u64 (xorNextN X:Nat))/\w'=(w.setCell ⟨rb,0,none⟩ (.int .u64 (xorNextN X:Nat))).drewN 3:=
 AnyF.xorshift_Next (P:=Tryz.prog) { Tryz.sortW with } rb 0 X hX w hc hf
theorem npow (n:Nat) (hn:n < 4611686018427387904) (w:World):Calls Tryz.prog 156 #[.int .i64 n] w fun e w'=>e=.returned (.int .u64 ((1 <<< bitsLen n:Nat):Int))/\w'=w:=
 AnyF.nextPowerOfTwo (P:=Tryz.prog) { Tryz.sortW with } n hn w
theorem bp_holds {w:World} {b o:Nat} {d dk:Array Int} (hd:Holds encU w b o d) (hb:b < w.heap.size) (hs:dk.size=d.size) (n q:Nat) (u v:Value) (T:TypeId):Holds encU (((grow (putRow encU (Sort.ahead w n) b o dk) #[Obj.cells #[u] T]).setCell ⟨w.heap.size,0,none⟩ v).drewN q) b o dk:=by
 have hz:(putRow encU (Sort.ahead w n) b o dk).heap.size=w.heap.size:=by simp
 rw [<- hz,setCell_grow_one]
 exact holds_grow encU _ _ _ _ _ (by rw [hz];exact hb) (holds_putRow encU _ _ _ d dk (holds_ahead _ _ _ _ _ _ hd) hs)
theorem brk32 (b o c lo L hi:Nat) (d:Array Int) (w:World) (hd:Holds encU w b o d) (hb:b < w.heap.size) (hL:12 < L) (hhi:hi=lo+L) (h2:hi<=d.size) (h3:d.size < 2305843009213693952) :
 Calls Tryz.prog 178 #[.slice (some ⟨b,o,none⟩) d.size c,.int .i64 lo,.int .i64 hi] w fun e w'=>e=.returned (.tuple #[])/\∃ n os,w'=grow (putRow encU (Sort.ahead w n) b o (breakPatterns d lo hi)) os:=by
 have heq:=breakPatterns_eq d lo L (by omega)
 rw [<- hhi] at heq
 obtain ⟨M,hM⟩:∃ M:Nat,1 <<< bitsLen L=M:=⟨_,rfl⟩
 obtain ⟨Q,hQ,HQ⟩:∃ Q:Nat,(L:Int) / 4=(Q:Int)/\Hid (Q=L / 4):=⟨L / 4,by omega,rfl⟩
 obtain ⟨A,hA,HA⟩:∃ A:Nat,(lo:Int)+(Q:Int)*2=(A:Int)/\Hid (A=lo+Q*2):=⟨lo+Q*2,by omega,rfl⟩
 obtain ⟨s0,hs0,Hs0⟩:∃ s0:Nat,(A:Int) - 1=(s0:Int)/\Hid (s0=A - 1):=⟨A - 1,by have:=HA.out;have:=HQ.out;omega,rfl⟩
 rw [hM,<- HQ.out,<- HA.out,<- Hs0.out] at heq
 obtain ⟨R,HR0⟩:∃ R,Hid (breakPatterns d lo hi=R):=⟨_,rfl⟩
 rw [HR0.out]
 rw [HR0.out] at heq
 have HR1:=hid heq.symm
 have hM1:1<=M:=by rw [<- hM,Nat.one_shiftLeft];exact Nat.two_pow_pos _
 have hM2:M<=2*L:=by rw [<- hM,Nat.one_shiftLeft];exact two_pow_bitsLen_le (by omega)
 have hNP:Hid (∀ w,Calls Tryz.prog 156 #[.int .i64 (L:Int)] w fun e w'=>e=.returned (.int .u64 (M:Int))/\w'=w):=by
  rw [<- hM];exact npow L (by omega)
 have HST:Hid (w.alloc (Obj.cells #[.int .u64 (L:Int)] 247)=grow (putRow encU (Sort.ahead w 0) b o d) #[Obj.cells #[.int .u64 ((UInt64.ofNat L).toNat:Int)] 247]):=by
  show _=_
  rw [show Sort.ahead w 0=w from rfl,putRow_self _ _ _ _ _ hd,alloc_eq_grow,show (UInt64.ofNat L).toNat=L from by simp;omega]
 have HD:=hid hd
 have eL:(hi:Int) - (lo:Int)=(L:Int):=by omega
 have hAs:A+3<=lo+L/\lo+1<=A:=by have:=HA.out;have:=HQ.out;omega
 have hsA:s0+1=A:=by have:=Hs0.out;omega
 have hhi2:lo+L<=d.size:=by omega
 have Hhi:=hid hhi
 clear heq hM hd HR0 hhi
 go_enter Tryz.func178,Tryz.ntmps178
 go_wp2_with fail
 refine (hNP.out _).mono ?_
 rintro e W ⟨rfl,rfl⟩
 rw [HST.out]
 clear hNP
 have hsz:(s0:Int)+1=(A:Int):=by omega
 clear hsA
 go_wp2_with fail
 go_loopw [9] (fun vi wr=>∃ (t n:Nat) (r:UInt64) (dk:Array Int),vi=.int .i64 ((s0+t:Nat):Int)/\t<=3/\dk.size=d.size/\wr=grow (putRow encU (Sort.ahead w n) b o dk) #[Obj.cells #[.int .u64 (r.toNat:Int)] 247]/\bpRest lo L M s0 (3 - t) t (r,dk)=R) (fun vi _=>A+3 - (intOf vi).toNat)
 case atStart=>exact ⟨0,0,UInt64.ofNat L,d,by congr 1,by omega,rfl,rfl,HR1.out⟩
 case round=>
  clear HST HR1
  obtain ⟨t,n,r,dk,rfl,ht,hsk,hw,hR⟩:=hrel
  obtain ⟨S,HSe⟩:∃ S,Hid (s0+t=S):=⟨_,rfl⟩
  rw [HSe.out]
  have HW:=hid hw
  have HR:=hid hR
  clear hR
  by_cases ht3:t < 3
  . have hSA:S<=A+1:=by have:=HSe.out;have:=Hs0.out;omega
    have hSz:(S:Int)<=(A:Int)+1:=by omega
    obtain ⟨X,HX⟩:∃ X:Nat,Hid (r.toNat=X):=⟨_,rfl⟩
    obtain ⟨Y,HY⟩:∃ Y:Nat,Hid (xorNextN X=Y):=⟨_,rfl⟩
    obtain ⟨O,HO⟩:∃ O:Nat,Hid (Y &&& (M - 1)=O):=⟨_,rfl⟩
    have HXb:Hid (X < 18446744073709551616):=by show _ < _;rw [<- HX.out];exact r.toNat_lt
    have HYb:Hid (Y < 18446744073709551616):=by show _ < _;rw [<- HY.out];exact xorNextN_lt X HXb.out
    have lO:O<=M - 1:=by rw [<- HO.out];exact Nat.and_le_right
    have eAnd:bits .and .u64 (Y:Int) ((M:Int) - 1)=(O:Int):=by
     rw [show ((M:Int) - 1)=((M - 1:Nat):Int) by omega,bits_and_u64_nat _ _ HYb.out (by omega),HO.out]
    obtain ⟨G,hG⟩:∃ G:Nat->Int,∀ x,G x=dk[x]!:=⟨fun x=>dk[x]!,fun _=>rfl⟩
    have HG:=hid hG
    have hz:(putRow encU (Sort.ahead w n) b o dk).heap.size=w.heap.size:=by simp
    obtain ⟨W2,HW2⟩:∃ W2,Hid ((wr.setCell ⟨w.heap.size,0,none⟩ (.int .u64 (Y:Int))).drewN 3=W2):=⟨_,rfl⟩
    have HNx:Hid (Calls Tryz.prog 157 #[.pointer (some ⟨w.heap.size,0,none⟩)] wr fun e w'=>e=.returned (.int .u64 (Y:Int))/\w'=W2):=by
     rw [<- HW2.out,<- HY.out]
     exact xnext w.heap.size X HXb.out wr (by rw [hw,<- HX.out,<- hz];exact grow_one_cell _ _ _) (by rw [hw,<- hz];exact grow_one_frozen _ _ _)
    have hH2:=bp_holds HD.out hb hsk n 3 (.int .u64 (r.toNat:Int)) (.int .u64 (Y:Int)) 247
    rw [<- hw,HW2.out] at hH2
    have hc:∀ x,x < d.size->W2.cell? ⟨b,o+x,none⟩=some (.int .u32 (G x)):=fun x hx=>by rw [hG];exact (hH2 x (by omega)).1
    have hf:∀ x,x < d.size->W2.frozen? ⟨b,o+x,none⟩=false:=fun x hx=>(hH2 x (by omega)).2
    obtain ⟨P,HP0⟩:∃ P:Nat,Hid ((if O ≥ L then O - L else O)=P):=⟨_,rfl⟩
    have HP:Hid ((if (xorNext r).toNat &&& (M - 1) ≥ L then ((xorNext r).toNat &&& (M - 1)) - L else (xorNext r).toNat &&& (M - 1))=P):=by
     show _=_
     rw [xorNext_toNat,HX.out,HY.out,HO.out,HP0.out]
    have hPL:P < L:=by
     rw [<- HP0.out];split <;> omega
    obtain ⟨v3,hy⟩:=cell?_setCell_some (w:=W2) (p:=⟨b,o+S,none⟩) (x:=.int .u32 (G (lo+P))) (q:=⟨b,o+(lo+P),none⟩) (hc (lo+P) (by omega))
    clear hw hG hz hH2
    by_cases hLO:L<=O
    . have eP:(O:Int) - (L:Int)=(P:Int):=by rw [<- HP0.out,if_pos hLO];omega
      go_wp2_with fail
      refine HNx.out.mono ?_
      rintro e W ⟨rfl,rfl⟩
      clear HNx
      go_wp2_with fail
      go_region
      all_goals go_wp2
      go_roundw
      case rel=>
       refine ⟨t+1,n+4,xorNext r,swp dk S (lo+P),by rw [<- HSe.out];rfl,by omega,by rw [size_swp];exact hsk,?_,?_⟩
       . rw [HG.out,HG.out,<- HW2.out,HW.out,<- HY.out,<- HX.out,<- xorNext_toNat]
         exact step_world encU w n 4 b o dk S (lo+P) hb (by omega) (by omega) _ _ _
       . rw [<- HR.out,bp_step lo L M s0 t r dk P ht3 HP.out,HSe.out]
      case measure=>simp [intOf];omega
    . have eP:P=O:=by rw [<- HP0.out,if_neg hLO]
      subst eP
      go_wp2_with fail
      refine HNx.out.mono ?_
      rintro e W ⟨rfl,rfl⟩
      clear HNx
      go_wp2_with fail
      go_region
      all_goals go_wp2
      go_roundw
      case rel=>
       refine ⟨t+1,n+4,xorNext r,swp dk S (lo+P),by rw [<- HSe.out];rfl,by omega,by rw [size_swp];exact hsk,?_,?_⟩
       . rw [HG.out,HG.out,<- HW2.out,HW.out,<- HY.out,<- HX.out,<- xorNext_toNat]
         exact step_world encU w n 4 b o dk S (lo+P) hb (by omega) (by omega) _ _ _
       . rw [<- HR.out,bp_step lo L M s0 t r dk P ht3 HP.out,HSe.out]
      case measure=>simp [intOf];omega
  . have ht4:t=3:=by omega
    subst ht4
    have hSA:S=A+2:=by have:=HSe.out;have:=Hs0.out;omega
    have hSz:¬ (S:Int)<=(A:Int)+1:=by omega
    clear hSA
    go_wp2
    go_end0
    refine ⟨rfl,n,#[Obj.cells #[.int .u64 (r.toNat:Int)] 247],?_⟩
    rw [<- HR.out];rfl
end Go.Proofs.YtcfngdnmpogaoaaGreat
namespace Go.Proofs.YtcfngdnmpogaoaaGreat
open Go.RowKit Go.Sort
set_option maxHeartbeats 12800000
set_option maxRecDepth 1000000
theorem ltU_yes {x y:Int}:ltU x y=true ↔ x < y:=by unfold ltU;exact decide_eq_true_iff
theorem ltU_no {x y:Int}:ltU x y=false ↔ ¬ x < y:=by unfold ltU;exact decide_eq_false_iff_not
theorem swoU:SWO ltU where
 irrefl x:=ltU_no.2 (by omega)
 trans x y z h1 h2:=by rw [ltU_yes] at *;omega
 ntrans x y z h1 h2:=by rw [ltU_no] at *;omega
theorem pdq32:∀ (N b o c lo hi lim0:Nat) (d:Array Int) (w:World),hi - lo < N->Holds encU w b o d->b < w.heap.size->lo<=hi->hi<=d.size->d.size < 2305843009213693952->lim0 < 1000->Sort.Below ltU lo hi d ->
 Calls Tryz.prog 172 #[.slice (some ⟨b,o,none⟩) d.size c,.int .i64 lo,.int .i64 hi,.int .i64 lim0] w fun e w'=>e=.returned (.tuple #[])/\At encU w b o (pdq ltU d lo hi lim0 true true) w':=by
 intro N
 induction N with
 | zero=>intro _ _ _ _ _ _ _ _ h;exact absurd h (Nat.not_lt_zero _)
 | succ N ih=>
   intro b o c lo hi lim0 d w hN hd hb h1 h2 h3 hl0 hB
   obtain ⟨R,HR0⟩:∃ R,Hid (pdq ltU d lo hi lim0 true true=R):=⟨_,rfl⟩
   rw [HR0.out]
   have HD:=hid hd
   have HIH:Hid (∀ (b o c lo hi lim0:Nat) (d:Array Int) (w:World),hi - lo < N->Holds encU w b o d->b < w.heap.size->lo<=hi->hi<=d.size->d.size < 2305843009213693952->lim0 < 1000->Sort.Below ltU lo hi d ->
    Calls Tryz.prog 172 #[.slice (some ⟨b,o,none⟩) d.size c,.int .i64 lo,.int .i64 hi,.int .i64 lim0] w fun e w'=>e=.returned (.tuple #[])/\At encU w b o (pdq ltU d lo hi lim0 true true) w'):=ih
   clear hd ih
   go_enter Tryz.func172,Tryz.ntmps172
   go_wp2
   go_loopg [1,2,3,8,9] (hi - lo) (fun k s1 s2 s3 s8 s9 wr=>∃ (x y lim:Nat) (wb wp:Bool) (dk:Array Int),s1=.int .i64 (x:Int)/\s2=.int .i64 (y:Int)/\s3=.int .i64 (lim:Int)/\s8=.bool wb/\s9=.bool wp/\x<=y/\y<=d.size/\y - x<=k/\k<=hi - lo/\lim<=lim0/\dk.size=d.size/\Sort.Below ltU x y dk/\At encU w b o dk wr/\pdq ltU dk x y lim wb wp=R)
   case atStart=>exact ⟨lo,hi,lim0,true,true,d,rfl,rfl,rfl,rfl,rfl,h1,h2,Nat.le_refl _,Nat.le_refl _,Nat.le_refl _,rfl,hB,At.refl HD.out,HR0.out⟩
   case round=>
    clear HR0 hB
    obtain ⟨x,y,lim,wb,wp,dk,rfl,rfl,rfl,rfl,rfl,hxy,hy,hk,hkN,hlim,hds,hB,hAt,hR⟩:=hrel
    have HR:=hid hR
    obtain ⟨hHk,hbk⟩:=hAt.holds HD.out hds hb
    clear hR
    by_cases h12:y - x<=12
    . have hz:(y:Int) - (x:Int)<=12:=by omega
      have hc:=ins32 b o c x y dk wr hHk hxy (by omega) (by omega)
      rw [hds] at hc
      go_wp2_with (go_at_call 176;refine hc.mono ?_;rintro e w1 ⟨rfl,hw1⟩)
      (try simp only [Exit.inBlock,Exit.then]);refine bodyPost_ret (results_none rfl _ _ _) rfl ?_
      refine ⟨rfl,?_⟩
      rw [<- HR.out,pdq_small h12]
      exact hAt.step hb hw1.size hw1.eq
    . have hz:¬ ((y:Int) - (x:Int)<=12):=by omega
      by_cases hl:lim=0
      . subst hl
        have hc:=heap32 b o c x y dk wr hHk (by omega) (by omega) (by omega)
        rw [hds] at hc
        go_wp2_with (go_at_call 177;refine hc.mono ?_;rintro e w1 ⟨rfl,hw1⟩)
        (try simp only [Exit.inBlock,Exit.then]);refine bodyPost_ret (results_none rfl _ _ _) rfl ?_
        refine ⟨rfl,?_⟩
        rw [<- HR.out,pdq_heap h12 rfl]
        exact hAt.step hb hw1.size hw1.eq
      . have hlz:¬ ((lim:Int)=0):=by omega
        obtain ⟨s1,B1,hc1,s2,B2,hpv,s3,B3⟩:=rd_facts (limit:=lim) (wb:=wb) (wp:=wp) swoU partialInsertionSort_holds reverseRange_holds (show x < y by omega) (show y<=dk.size by omega) hB
        obtain ⟨r,Hr⟩:∃ r,Hid (rd ltU dk x y lim wb wp=r):=⟨_,rfl⟩
        rw [Hr.out] at s1 B1 hc1 s2 B2 hpv s3 B3
        have HB1:Hid (Sort.Below ltU x y r.d1/\Sort.Below ltU x y r.d2/\Sort.Below ltU x y r.pi.1):=⟨B1,B2,B3⟩
        clear B1 B2 B3 hB
        go_upto_if 35 with fail
        go_cut [3] from 19 to 133 (fun s3 wc=>s3=.int .i64 (r.lim:Int)/\At encU w b o r.d1 wc)
        case first=>
         cases wb
         . have e1:r.d1=breakPatterns dk x y/\r.lim=lim - 1:=by rw [<- Hr.out];exact rd_false
           have hc:=brk32 b o c x (y - x) y dk wr hHk hbk (by omega) (by omega) (by omega) (by omega)
           rw [hds] at hc
           go_wp2_with (go_at_call 178;refine hc.mono ?_;rintro e w1 ⟨rfl,hw1⟩)
           go_meet
           case rel=>
            refine ⟨?_,by rw [e1.1];exact hAt.stepG hb (by rw [<- e1.1];exact s1) hw1⟩
            rw [e1.2]
            congr 1
            omega
         . have e1:r.d1=dk/\r.lim=lim:=by rw [<- Hr.out];exact rd_true
           go_wp2_with fail
           go_meet
           case rel=>exact ⟨by rw [e1.2],by rw [e1.1];exact hAt⟩
        case rest=>
         obtain ⟨rfl,hAt1⟩:=hcut
         obtain ⟨hH1,hb1⟩:=hAt1.holds HD.out (s1.trans hds) hb
         have hcp:=piv32 b o c x y r.d1 wc hH1 hb1 (by omega) (by omega) (by omega)
         rw [s1,hds] at hcp
         have HCP:=hid hcp
         clear hcp hAt hHk hbk
         go_upto_if 50 with (go_at_call 179;refine HCP.out.mono ?_;rintro e w2 ⟨p,hh,hpe,rfl,hw2⟩)
         have hcr:r.c=(p,hh):=by
          rw [<- Hr.out,rd_c,Hr.out];exact hpe
         have hAt2:=hAt1.same HD.out (s1.trans hds) hb hw2
         obtain ⟨hH2,hb2⟩:=hAt2.holds HD.out (s1.trans hds) hb
         clear HCP hAt1 hH1 hb1 hpe
         rw [hcr] at hc1
         go_cut [11,12] from 19 to 133 (fun s11 s12 wc=>s11=.int .i64 (r.pivot:Int)/\s12=.int .i64 (hintCode r.hint)/\At encU w b o r.d2 wc)
         case first=>
          by_cases hdec:hh=.decreasing
          . subst hdec
            have e3:r.d2=reverseRange r.d1 x y/\r.pivot=(y - 1) - (r.c.1 - x)/\r.hint=.increasing:=by
             have h0:(rd ltU dk x y lim wb wp).c.2=.decreasing:=by rw [Hr.out,hcr]
             have h9:=rd_dec h0
             rw [Hr.out] at h9
             exact h9
            have hcode:hintCode .decreasing=2:=rfl
            have hc18:=rev32 b o c x y r.d1 w2 hH2 (by omega) (by omega) (by omega)
            rw [s1,hds] at hc18
            go_wp2_with (go_at_call 180;refine hc18.mono ?_;rintro e w3 ⟨rfl,hw3⟩)
            go_meet
            case rel=>
             refine ⟨?_,by rw [e3.2.2];rfl,by rw [e3.1];exact hAt2.step hb (by rw [<- e3.1,s2,s1]) hw3.eq⟩
             rw [e3.2.1,hcr]
             congr 1
             simp only at hc1 ⊢
             omega
          . have e3:r.d2=r.d1/\r.pivot=r.c.1/\r.hint=r.c.2:=by
             have h0:(rd ltU dk x y lim wb wp).c.2 ≠ .decreasing:=by rw [Hr.out,hcr];exact hdec
             have h9:=rd_not h0
             rw [Hr.out] at h9
             exact h9
            have hcode:(hintCode hh == 2)=false:=by
             cases hh <;> first | rfl | exact absurd rfl hdec
            go_wp2_with fail
            go_meet
            case rel=>exact ⟨by rw [e3.2.1,hcr],by rw [e3.2.2,hcr],by rw [e3.1];exact hAt2⟩
         case rest=>
          obtain ⟨rfl,rfl,hAt3⟩:=hcut
          obtain ⟨hH3,hb3⟩:=hAt3.holds HD.out (s2.trans hds) hb
          clear hAt2 hH2 hb2 hw2
          go_upto_region 15 with fail
          obtain ⟨hn,Hhn⟩:∃ hn,Hid (r.hint=hn):=⟨_,rfl⟩
          obtain ⟨tb,Htb⟩:∃ tb,Hid ((wb && wp && decide (r.hint=.increasing))=tb):=⟨_,rfl⟩
          go_cut [12,68] from 19 to 133 (fun s12 s68 wx=>s12=.int .i64 (hintCode r.hint)/\s68=.bool tb/\wx=wc)
          case first=>
           cases wb <;> cases wp <;> cases hn <;>
            (have hcode:=congrArg hintCode Hhn.out
             simp only [hintCode] at hcode
             go_wp2_with fail
             go_meet
             exact ⟨by simp [Hhn.out,hintCode],by rw [<- Htb.out];simp [Hhn.out,hintCode],rfl⟩)
          case rest=>
           obtain ⟨rfl,rfl,rfl⟩:=hcut
           go_upto_if 68 with fail
           go_cut [] from 19 to 133 (fun wx=>r.pi.2=false/\At encU w b o r.pi.1 wx)
           case first=>
            cases tb
            . have e5:r.pi=(r.d2,false):=by
               have h9:=rd_pi_no (lt:=ltU) (d:=dk) (a:=x) (b:=y) (limit:=lim) (wb:=wb) (wp:=wp) (by rw [Hr.out];exact Htb.out)
               rw [Hr.out] at h9
               exact h9
              go_wp2_with fail
              go_meet
              case rel=>exact ⟨by rw [e5],by rw [e5];exact hAt3⟩
            . have e5:r.pi=partialInsertionSort ltU r.d2 x y:=by
               have h9:=rd_pi_yes (lt:=ltU) (d:=dk) (a:=x) (b:=y) (limit:=lim) (wb:=wb) (wp:=wp) (by rw [Hr.out];exact Htb.out)
               rw [Hr.out] at h9
               exact h9
              have hc19:=parti32 b o c x y r.d2 wc hH3 (by omega) (by omega) (by omega)
              rw [s2,hds,<- e5] at hc19
              have HC19:=hid hc19
              clear hc19
              go_wp2_with (go_at_call 181;refine HC19.out.mono ?_;rintro e w4 ⟨d9,p9,hp9,rfl,hw4⟩;cases p9)
              . have hAt5:At encU w b o r.pi.1 w4:=by rw [hp9];exact hAt3.step hb hw4.size hw4.eq
                go_wp2_with fail
                go_meet
                case rel=>exact ⟨by rw [hp9],hAt5⟩
              . have hAt5:At encU w b o r.pi.1 w4:=by rw [hp9];exact hAt3.step hb hw4.size hw4.eq
                go_wp2_with fail
                (try simp only [Exit.inBlock,Exit.then]);refine bodyPost_ret (results_none rfl _ _ _) rfl ?_
                refine ⟨rfl,?_⟩
                rw [<- HR.out,pdq_done h12 hl (by rw [Hr.out,hp9]),Hr.out]
                exact hAt5
           case rest=>
            obtain ⟨hp2,hAt5⟩:=hcut
            obtain ⟨hH5,hb5⟩:=hAt5.holds HD.out (s3.trans hds) hb
            clear hAt3 hH3 hb3
            obtain ⟨G,hG⟩:∃ G:Nat->Int,∀ t,G t=r.pi.1[t]!:=⟨fun t=>r.pi.1[t]!,fun _=>rfl⟩
            have hc:∀ t,t < d.size->wc.cell? ⟨b,o+t,none⟩=some (.int .u32 (G t)):=fun t ht=>by rw [hG];exact (hH5 t (by omega)).1
            have hf:∀ t,t < d.size->wc.frozen? ⟨b,o+t,none⟩=false:=fun t ht=>(hH5 t (by omega)).2
            have HG:=hid hG
            clear hG
            go_upto_region 17 with fail
            obtain ⟨te,Hte⟩:∃ te,Hid ((decide (x > 0) && !ltU r.pi.1[x - 1]! r.pi.1[r.pivot]!)=te):=⟨_,rfl⟩
            go_cut [87] from 19 to 133 (fun s87 wx=>s87=.bool te/\At encU w b o r.pi.1 wx)
            case first=>
             rcases Nat.eq_zero_or_pos x with hx0 | hx0
             . have hx0z:decide ((x:Int) > 0)=false:=decide_eq_false (by omega)
               have hx0y:decide ((0:Int) < (x:Int))=false:=decide_eq_false (by omega)
               have hx0n:decide (0 < x)=false:=decide_eq_false (by omega)
               have hx0m:(x:Int)<=0:=by omega
               have Hx0:=hid hx0
               clear hx0
               go_quiet ((go_at_call 182;exact Calls.quiet_of_same (less32 _ _ _)))
               go_wp2_with fail
               go_meet
               case rel=>exact ⟨by rw [<- Hte.out];simp [Hx0.out],hAt5.ahead nq⟩
             . have hx0z:(x:Int) > 0:=by omega
               go_quiet ((go_at_call 182;exact Calls.quiet_of_same (less32 _ _ _)))
               go_wp2_with fail
               go_meet
               case rel=>exact ⟨by rw [<- Hte.out,<- HG.out,<- HG.out];simp [hx0,ltU],hAt5.ahead nq⟩
            case rest=>
             obtain ⟨rfl,hAt6⟩:=hcut
             obtain ⟨hH6,hb6⟩:=hAt6.holds HD.out (s3.trans hds) hb
             clear hc hf HG hAt5 hH5 hb5
             have hlm:r.lim<=lim:=by rw [<- Hr.out];exact rd_lim_le
             cases te
             . obtain ⟨mid,ap,d4,hx⟩:∃ mid ap d4,partition ltU r.pi.1 x y r.pivot=(mid,ap,d4):=⟨_,_,_,rfl⟩
               obtain ⟨r1,r2,r3,r4,r5,r6,r7⟩:=round_part swoU (partition_holds ltU) hpv.1 hpv.2 (show y<=r.pi.1.size by omega) HB1.out.2.2 hx
               have hc22:=part32 b o c x y r.pivot r.pi.1 wc hH6 hpv.1 hpv.2 (by omega) (by omega)
               rw [s3,hds,hx] at hc22
               have HX:=hid hx
               have HC22:=hid hc22
               clear hx hc22
               go_upto_if 113 with (go_at_call 184;refine HC22.out.mono ?_;rintro e w7 ⟨m7,p7,d7,he7,rfl,hw7⟩;(simp only [Prod.mk.injEq] at he7;obtain ⟨rfl,rfl,rfl⟩:=he7))
               have hAt7:=hAt6.step hb r3 hw7.eq
               obtain ⟨hH7,hb7⟩:=hAt7.holds HD.out (r3.trans (s3.trans hds)) hb
               by_cases h4:mid - x < y - mid
               . have h4z:(mid:Int) - (x:Int) < (y:Int) - (mid:Int):=by omega
                 have hih:=HIH.out b o c (x) (mid) r.lim d4 w7 (by omega) hH7 hb7 (by omega) (by omega) (by omega) (by omega) r4
                 rw [r3,s3,hds] at hih
                 obtain ⟨pL,sL⟩:=pdq_sorts ltU swoU d4 (x) (mid) r.lim true true (by omega) (by omega) r4
                 have HPL:Hid (Sort.Below ltU (mid+1) (y) (pdq ltU d4 (x) (mid) r.lim true true)/\(pdq ltU d4 (x) (mid) r.lim true true).size=d.size):=⟨(r6 _ pL sL).1,by rw [pL.1,r3,s3,hds]⟩
                 clear pL sL
                 go_wp2_with (go_at_call 172;refine hih.mono ?_;rintro e w8 ⟨rfl,hw8⟩)
                 go_roundg (y - (mid+1))
                 case measure=>omega
                 case rel=>
                  refine ⟨mid+1,y,r.lim,decide (mid - x ≥ (y - x) / 8),ap,pdq ltU d4 (x) (mid) r.lim true true,by first | rfl | go_num,rfl,rfl,?_,rfl,by omega,by omega,Nat.le_refl _,by omega,by omega,HPL.out.2,HPL.out.1,hAt7.stepG hb (by rw [HPL.out.2,r3,s3,hds]) hw8,?_⟩
                  . exact congrArg Value.bool (eighth (by omega) (by omega))
                  . rw [<- HR.out,pdq_left h12 hl (by rw [Hr.out];exact hp2) (by rw [Hr.out];exact Hte.out) (by rw [Hr.out,HX.out];exact ⟨r1,r2⟩) (by rw [Hr.out,HX.out];exact h4),Hr.out,HX.out]
               . have h4z:¬ (mid:Int) - (x:Int) < (y:Int) - (mid:Int):=by omega
                 have hih:=HIH.out b o c (mid+1) (y) r.lim d4 w7 (by omega) hH7 hb7 (by omega) (by omega) (by omega) (by omega) r5
                 rw [r3,s3,hds] at hih
                 obtain ⟨pL,sL⟩:=pdq_sorts ltU swoU d4 (mid+1) (y) r.lim true true (by omega) (by omega) r5
                 have HPL:Hid (Sort.Below ltU (x) (mid) (pdq ltU d4 (mid+1) (y) r.lim true true)/\(pdq ltU d4 (mid+1) (y) r.lim true true).size=d.size):=⟨(r7 _ pL sL).1,by rw [pL.1,r3,s3,hds]⟩
                 clear pL sL
                 go_wp2_with (go_at_call 172;refine hih.mono ?_;rintro e w8 ⟨rfl,hw8⟩)
                 go_roundg (mid - (x))
                 case measure=>omega
                 case rel=>
                  refine ⟨x,mid,r.lim,decide (y - mid ≥ (y - x) / 8),ap,pdq ltU d4 (mid+1) (y) r.lim true true,by first | rfl | go_num,rfl,rfl,?_,rfl,by omega,by omega,Nat.le_refl _,by omega,by omega,HPL.out.2,HPL.out.1,hAt7.stepG hb (by rw [HPL.out.2,r3,s3,hds]) hw8,?_⟩
                  . exact congrArg Value.bool (eighth (by omega) (by omega))
                  . rw [<- HR.out,pdq_right h12 hl (by rw [Hr.out];exact hp2) (by rw [Hr.out];exact Hte.out) (by rw [Hr.out,HX.out];exact ⟨r1,r2⟩) (by rw [Hr.out,HX.out];exact h4),Hr.out,HX.out]
             . have hte:=Hte.out
               simp only [Bool.and_eq_true,decide_eq_true_eq,Bool.not_eq_true'] at hte
               obtain ⟨mid,d4,hx⟩:∃ mid d4,partitionEqual ltU r.pi.1 x y r.pivot=(mid,d4):=⟨_,_,rfl⟩
               obtain ⟨r1,r2,r3,r4,-⟩:=round_eq swoU (partitionEqual_holds ltU) hte.1 hpv.1 hpv.2 (show y<=r.pi.1.size by omega) HB1.out.2.2 hte.2 hx
               have hc21:=parteq32 b o c x y r.pivot r.pi.1 wc hH6 hpv.1 hpv.2 (by omega) (by omega)
               rw [s3,hds,hx] at hc21
               have HX:=hid hx
               have HC21:=hid hc21
               clear hx hc21 hte
               go_wp2_with (go_at_call 183;refine HC21.out.mono ?_;rintro e w7 ⟨m7,d7,he7,rfl,hw7⟩;(simp only [Prod.mk.injEq] at he7;obtain ⟨rfl,rfl⟩:=he7))
               have hAt7:=hAt6.step hb r3 hw7.eq
               go_roundg (y - mid)
               case measure=>omega
               case rel=>
                exact ⟨mid,y,r.lim,wb,wp,d4,rfl,rfl,rfl,rfl,rfl,r2,hy,Nat.le_refl _,by omega,by omega,by rw [r3,s3,hds],r4,hAt7,by rw [<- HR.out,pdq_eq h12 hl (by rw [Hr.out];exact hp2) (by rw [Hr.out];exact Hte.out) (by rw [Hr.out,HX.out];exact ⟨r1,r2⟩),Hr.out,HX.out]⟩
end Go.Proofs.YtcfngdnmpogaoaaGreat
namespace Go.Proofs.YtcfngdnmpogaoaaGreat
open Go.RowKit Go.Sort Go.Shelf
variable {d:Array Int} {g off:Nat} {w:World}
set_option maxHeartbeats 1600000
theorem len32 (n:Nat) (hn:n < 4611686018427387904) (w:World):Calls Tryz.prog 106 #[.int .u64 (n:Int)] w fun e w'=>e=.returned (.int .i64 (bitsLen n:Nat))/\w'=w:=by
 have h:=Any.bits_Len (SlLaysF0.n15.bits (P:=Tryz.prog) { Tryz.sortW with }) (n:Int) w (by omega) (by omega)
 rw [Int.toNat_natCast,bitLen_eq _ (by omega)] at h
 exact h
theorem sort32 (b o c:Nat) (d:Array Int) (w:World) (hd:Holds encU w b o d) (hb:b < w.heap.size) (h3:d.size < 2305843009213693952) :
 Calls Tryz.prog 154 #[.slice (some ⟨b,o,none⟩) d.size c] w fun e w'=>e=.returned (.tuple #[])/\∃ d',At encU w b o d' w'/\PermIn 0 d.size d d'/\SortedIn ltU 0 d.size d':=by
 have h9:=bitsLen_le_iff d.size 62
 have h8:=h9.2 (by omega)
 have hp:=pdq32 (d.size+1) b o c 0 d.size (bitsLen d.size) d w (by omega) hd hb (by omega) (Nat.le_refl _) h3 (by omega) (.inl rfl)
 have HP:=hid hp
 have hs:=pdq_sorts ltU swoU d 0 d.size (bitsLen d.size) true true (by omega) (Nat.le_refl _) (.inl rfl)
 have hL:=len32 d.size (by omega)
 have HS:=hid hs
 clear hs hp h9 hd
 go_enter Tryz.func154,Tryz.ntmps154
 go_wp2_with fail
 refine (hL _).mono ?_
 rintro e W ⟨rfl,rfl⟩
 go_wp2_with fail
 refine HP.out.mono ?_
 rintro e W2 ⟨rfl,h⟩
 go_wp2
 go_end0
 exact ⟨rfl,_,h,HS.out⟩
theorem insOrd_none (v:Value) (w:World) :
 Calls Tryz.prog 176 #[v,.int .i64 0,.int .i64 0] w fun e w'=>e=.returned (.tuple #[])/\w'=w:=by
 go_enter Tryz.func176,Tryz.ntmps176
 go_wp2
 refine wp_loop_rounds 1 ?_
 rw [rounds_succ]
 go_wp2
 go_end0
 exact ⟨rfl,rfl⟩
theorem pdqOrd_none (v:Value) (limit:Value) (w:World) :
 Calls Tryz.prog 172 #[v,.int .i64 0,.int .i64 0,limit] w fun e w'=>e=.returned (.tuple #[])/\w'=w:=by
 go_enter Tryz.func172,Tryz.ntmps172
 go_wp2
 refine wp_loop_rounds 1 ?_
 rw [rounds_succ]
 go_wp2_with fail
 refine (insOrd_none _ _).mono ?_
 rintro e W ⟨rfl,rfl⟩
 go_wp2
 exact bodyPost_ret (results_none rfl _ _ _) rfl ⟨rfl,rfl⟩
theorem sort_none (p:Option Addr) (c:Nat) (w:World):Calls Tryz.prog 154 #[.slice p 0 c] w fun e w'=>e=.returned (.tuple #[])/\w'=w:=by
 have hL:=len32 0 (by omega)
 change ∀ w,Calls Tryz.prog 106 #[.int .u64 0] w _ at hL
 go_enter Tryz.func154,Tryz.ntmps154
 go_wp2_with fail
 refine (hL _).mono ?_
 rintro e W ⟨rfl,rfl⟩
 go_wp2_with fail
 refine (pdqOrd_none _ _ _).mono ?_
 rintro e W2 ⟨rfl,rfl⟩
 go_wp2
 go_end0
 exact ⟨rfl,rfl⟩
theorem At.kept {w':World} (h:At encU w g off d w'):Kept (fun k=>k=g) w w':=by
 obtain ⟨m,os,rfl⟩:=h
 refine ⟨rfl,rfl,rfl,?_,fun k hk hne=>?_⟩
 . show _<=(w.heap.modify g (onCells (putCells encU off d))++os).size
   simp
 . show (w.heap.modify g (onCells (putCells encU off d))++os)[k]?=_
   rw [Array.getElem?_append_left (by simpa using hk),Array.getElem?_modify,if_neg (fun h=>hne h.symm)]
theorem At.row {w':World} {e:TypeId} {cap n:Nat} {d':Array Int} (hA:At encU w g off d' w') (h:Row w e 1 (.slice (some ⟨g,off,none⟩) n cap) (d.toList.map encU)) (hs:d'.size=d.size):Row w' e 1 (.slice (some ⟨g,off,none⟩) n cap) (d'.toList.map encU):=by
 rcases h with ⟨h1,_⟩ | ⟨g',off',n',cap',cur,h1,hg,h3,h4,h5,h6,h7⟩
 . cases h1
 . cases h1
   obtain ⟨m,os,rfl⟩:=hA
   have hlt:g < w.heap.size:=(Array.getElem?_eq_some_iff.1 hg).1
   have hg2:(grow (putRow encU (Sort.ahead w m) g off d') os).heap[g]?=some (.cells (putCells encU off d' cur) e (0,0)):=by
    show (w.heap.modify g (onCells (putCells encU off d'))++os)[g]?=_
    rw [Array.getElem?_append_left (by simpa using hlt),Array.getElem?_modify,if_pos rfl,hg]
    rfl
   simp only [List.length_map,Array.length_toList] at h6
   refine .inr ⟨g,off,n,cap,_,rfl,hg2,h3,h4,?_,by simp only [List.length_map,Array.length_toList];omega,fun j hj=>?_⟩
   . simpa [putCells] using h5
   . have hcs:off+j < cur.size:=by omega
     have hj2:j < d'.size:=by omega
     unfold putCells
     rw [Array.getElem?_mapIdx,Array.getElem?_eq_getElem hcs,Option.map_some,if_pos ⟨by omega,by omega⟩,Nat.add_sub_cancel_left]
     simp [hj2]
theorem row_holds {e:TypeId} {n cap:Nat} (h:Row w e 1 (.slice (some ⟨g,off,none⟩) n cap) (d.toList.map encU)):n=d.size/\Holds encU w g off d/\g < w.heap.size:=by
 rcases h with ⟨h1,_⟩ | ⟨g',off',n',cap',cur,h1,hg,h3,h4,h5,h6,h7⟩
 . cases h1
 . cases h1
   simp only [List.length_map,Array.length_toList] at h6
   refine ⟨by omega,fun j hj=>⟨?_,frozen_of_row w _ _ _ _ hg⟩,(Array.getElem?_eq_some_iff.1 hg).1⟩
   rw [cell_of_row w _ _ _ _ _ hg,h7 j (by omega)]
   simp [hj]
end Go.Proofs.YtcfngdnmpogaoaaGreat
