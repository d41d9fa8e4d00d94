import Derived.Test.YtcfngdnmpogaoaaGreatTkU12
import Derived.Test.YtcfngdnmpogaoaaGreatTkT08
namespace Go.Proofs.YtcfngdnmpogaoaaGreat
open Go.RowKit
variable {w:World}
set_option maxHeartbeats 6400000
set_option maxRecDepth 20000
def winArr (x:Win) (tv:Value):Array Value:=#[.string x.key,.int .i64 x.start,.int .i64 x.cnt,.int .i64 x.sum,.int .i64 x.lo,.int .i64 x.hi,tv]
def winV (x:Win) (tv:Value):Value:=.agg (winArr x tv)
theorem cells7Put {g:Nat} {x0 x1 x2 x3 x4 x5 x6 y0 y1 y2 y3 y4 y5 y6:Value} {t:TypeId} (h:w.heap[g]?=some (.cells #[x0,x1,x2,x3,x4,x5,x6] t (0,0))) :
 (((((((w.setCell ⟨g,0,none⟩ y0).setCell ⟨g,1,none⟩ y1).setCell ⟨g,2,none⟩ y2).setCell ⟨g,3,none⟩ y3).setCell ⟨g,4,none⟩ y4).setCell ⟨g,5,none⟩ y5).setCell ⟨g,6,none⟩ y6).heap[g]?=some (.cells #[y0,y1,y2,y3,y4,y5,y6] t (0,0)):=by
 simp [World.setCell,Array.getElem?_modify,h]
structure WnInv (w wr:World) (x:Win) (tv:Value):Prop where
 row:Row wr 26 1 tv (x.tags.map tagV)
 blk:∀ k,tv.ownBlock=some k->w.heap.size<=k
 below:Below w.heap.size w wr
 size:w.heap.size+2<=wr.heap.size
 res:wr.heap[w.heap.size]?=some (.cells #[.string ⟨#[]⟩,.int .i64 0,.int .i64 0,.int .i64 0,.int .i64 0,.int .i64 0,.slice none 0 0] 70 (0,0))
 box:wr.heap[w.heap.size+1]?=some (.cells #[.string x.key,.int .i64 x.start,.int .i64 x.cnt,.int .i64 x.sum,.int .i64 x.lo,.int .i64 x.hi,tv] 70 (0,0))
theorem cells7At {g:Nat} {x0 x1 x2 x3 x4 x5 x6:Value} {t:TypeId} (h:w.heap[g]?=some (.cells #[x0,x1,x2,x3,x4,x5,x6] t (0,0))) :
 w.cell? ⟨g,0,none⟩=some x0/\w.cell? ⟨g,1,none⟩=some x1/\w.cell? ⟨g,2,none⟩=some x2/\w.cell? ⟨g,3,none⟩=some x3/\w.cell? ⟨g,4,none⟩=some x4/\w.cell? ⟨g,5,none⟩=some x5/\w.cell? ⟨g,6,none⟩=some x6/\∀ j,w.frozen? ⟨g,j,none⟩=false:=by
 refine ⟨?_,?_,?_,?_,?_,?_,?_,fun j=>?_⟩ <;> simp [World.cell?,World.frozen?,h]
theorem WnInv.put {wr:World} {x x':Win} {tv tv':Value} (h:WnInv w wr x tv) (k:Nat) (v:Value) (hk:#[Value.string x'.key,.int .i64 x'.start,.int .i64 x'.cnt,.int .i64 x'.sum,.int .i64 x'.lo,.int .i64 x'.hi,tv']=#[Value.string x.key,.int .i64 x.start,.int .i64 x.cnt,.int .i64 x.sum,.int .i64 x.lo,.int .i64 x.hi,tv].setIfInBounds k v)
 (hrow:Row wr 26 1 tv' (x'.tags.map tagV)) (hblk:∀ k,tv'.ownBlock=some k->w.heap.size<=k):WnInv w (wr.setCell ⟨w.heap.size+1,k,none⟩ v) x' tv':=by
 refine ⟨hrow.setCell _ _ (hrow.ne_block h.box (by decide)),hblk,h.below.setCell (by simp) _,by simpa [World.setCell] using h.size,?_,?_⟩
 . rw [heap_setCell_other _ _ _ _ (by simp)];exact h.res
 . rw [hk];exact heap_setCell_same _ _ _ _ _ _ h.box
theorem WnInv.putI {wr:World} {x x':Win} {tv:Value} (h:WnInv w wr x tv) (k:Nat) (v:Value) (ht:x'.tags=x.tags) (hk:#[Value.string x'.key,.int .i64 x'.start,.int .i64 x'.cnt,.int .i64 x'.sum,.int .i64 x'.lo,.int .i64 x'.hi,tv]=#[Value.string x.key,.int .i64 x.start,.int .i64 x.cnt,.int .i64 x.sum,.int .i64 x.lo,.int .i64 x.hi,tv].setIfInBounds k v):WnInv w (wr.setCell ⟨w.heap.size+1,k,none⟩ v) x' tv:=
 h.put k v hk (by rw [ht];exact h.row) h.blk
theorem window_any (g:Nat) (r:RCells) (E:List Ev) (key:ByteArray) (s:Int) (w:World) (h:REv w g r E) (hE:E.length<=100000000) (hs:-4611686018427387904<=s/\s<=4611686018427387904) (hz:1<=r.size/\r.size<=1099511627776) :
 Calls Tryz.prog 144 #[.pointer (some ⟨g,0,none⟩),.string key,.int .i64 s] w fun e w'=>∃ tv,e=.returned (winV (winF key s r.size E) tv)/\Row w' 26 1 tv ((winF key s r.size E).tags.map tagV)/\(∀ k,tv.ownBlock=some k->w.heap.size<=k)/\Below w.heap.size w w':=by
 have H:=hid h
 have hglt:=h.rf.lt
 obtain ⟨ea,ec,hev⟩:=h.shape
 have e0:=h.rf.tailAt 0 rfl
 have z0:=h.rf.headAt 0 rfl
 rw [hev] at e0
 have hw1:IntKind.i64.wrap (s+r.size)=s+r.size:=by rw [IntKind.wrap_i64];omega
 have hw2:IntKind.i64.wrap (s+r.size - 1)=s+r.size - 1:=by rw [IntKind.wrap_i64];omega
 obtain ⟨size,hsize⟩:∃ z,r.size=z:=⟨_,rfl⟩
 rw [hsize] at z0 hw1 hw2 ⊢
 have hb0:Below w.heap.size w ((w.alloc (.cells #[.string ⟨#[]⟩,.int .i64 0,.int .i64 0,.int .i64 0,.int .i64 0,.int .i64 0,.slice none 0 0] 70)).alloc (.cells #[.string key,.int .i64 s,.int .i64 0,.int .i64 0,.int .i64 0,.int .i64 0,.slice none 0 0] 70)):=((Below.refl _ w).alloc (Nat.le_refl _) _).alloc (by simp) _
 have hI0:Hid (WnInv w ((w.alloc (.cells #[.string ⟨#[]⟩,.int .i64 0,.int .i64 0,.int .i64 0,.int .i64 0,.int .i64 0,.slice none 0 0] 70)).alloc (.cells #[.string key,.int .i64 s,.int .i64 0,.int .i64 0,.int .i64 0,.int .i64 0,.slice none 0 0] 70)) (winF key s size (E.take 0)) (.slice none 0 0)):=
  ⟨Row.nil _ _ _,fun k hk=>by simp [Value.ownBlock] at hk,hb0,by simp,(two_new w _ _).1,(two_new w _ _).2⟩
 clear h
 go_enter Tryz.func144,Tryz.ntmps144
 go_wp2_with fail
 generalize (w.alloc (.cells #[.string ⟨#[]⟩,.int .i64 0,.int .i64 0,.int .i64 0,.int .i64 0,.int .i64 0,.slice none 0 0] 70)).alloc (.cells #[.string key,.int .i64 s,.int .i64 0,.int .i64 0,.int .i64 0,.int .i64 0,.slice none 0 0] 70)=W0 at *
 go_loopw [8] (fun c wr=>∃ (n:Nat) (tv:Value),n<=E.length/\c=.int .i64 (n:Int)/\WnInv w wr (winF key s size (E.take n)) tv) (fun c _=>E.length - (intOf c).toNat)
 case atStart=>exact ⟨0,_,Nat.zero_le _,rfl,hI0.out⟩
 case round=>
  clear hI0 hb0
  obtain ⟨n,tv,hn,rfl,hI⟩:=hrel
  have HI:=hid hI
  have HB:=hid hI.below
  have e1:wr.cell? ⟨g,44,none⟩=some (.slice ea E.length ec):=by rw [hI.below.cell (show (⟨g,44,none⟩:Addr).block < _ from hglt)];exact e0
  have z1:wr.cell? ⟨g,0,none⟩=some (.int .i64 size):=by rw [hI.below.cell (show (⟨g,0,none⟩:Addr).block < _ from hglt)];exact z0
  have hsz:=hI.size
  clear hI e0 z0
  by_cases hlt:n < E.length
  . have hx:E[n]?=some E[n]:=List.getElem?_eq_getElem hlt
    have hst:=winF_take key s size E n _ hx
    generalize E[n]=e at *
    obtain ⟨ge,eo,ec',hv,hgl,i0,i1,i2,i3,i4⟩:=H.out.item hx
    rw [hev] at hv
    simp only [Value.slice.injEq] at hv
    obtain ⟨rfl,-,rfl⟩:=hv
    have j0:wr.cell? ⟨ge,eo+n*5,none⟩=some (.int .i64 1):=by rw [HB.out.cell (show (⟨ge,eo+n*5,none⟩:Addr).block < _ from hgl)];exact i0
    have j1:wr.cell? ⟨ge,eo+n*5+1,none⟩=some (.string e.key):=by rw [HB.out.cell (show (⟨ge,eo+n*5+1,none⟩:Addr).block < _ from hgl)];exact i1
    have j2:wr.cell? ⟨ge,eo+n*5+2,none⟩=some (.int .i64 e.t):=by rw [HB.out.cell (show (⟨ge,eo+n*5+2,none⟩:Addr).block < _ from hgl)];exact i2
    have j3:wr.cell? ⟨ge,eo+n*5+3,none⟩=some (.int .i64 e.v):=by rw [HB.out.cell (show (⟨ge,eo+n*5+3,none⟩:Addr).block < _ from hgl)];exact i3
    have j4:wr.cell? ⟨ge,eo+n*5+4,none⟩=some (.int .u32 (e.tag:Int)):=by rw [HB.out.cell (show (⟨ge,eo+n*5+4,none⟩:Addr).block < _ from hgl)];exact i4
    have hnl:(n:Int) < (E.length:Int):=by omega
    have hwn:IntKind.i64.wrap ((n:Int)+1)=(n:Int)+1:=by rw [IntKind.wrap_i64];omega
    clear i0 i1 i2 i3 i4
    go_upto_region 6 with fail
    have HI1:Hid (WnInv w (wr.alloc (.cells #[.int .i64 1,.string e.key,.int .i64 e.t,.int .i64 e.v,.int .u32 (e.tag:Int)] 28)) (winF key s size (E.take n)) tv):=by
     have hI:=HI.out
     refine ⟨hI.row.alloc _,hI.blk,hI.below.alloc (by omega) _,by simp;omega,?_,?_⟩
     . rw [Below.heap_alloc _ _ _ (by omega)];exact hI.res
     . rw [Below.heap_alloc _ _ _ (by omega)];exact hI.box
    have hi1:=heap_alloc_new wr (.cells #[.int .i64 1,.string e.key,.int .i64 e.t,.int .i64 e.v,.int .u32 (e.tag:Int)] 28)
    have z2:(wr.alloc (.cells #[.int .i64 1,.string e.key,.int .i64 e.t,.int .i64 e.v,.int .u32 (e.tag:Int)] 28)).cell? ⟨g,0,none⟩=some (.int .i64 size):=by
     rw [((Below.refl wr.heap.size wr).alloc (Nat.le_refl _) _).cell (show (⟨g,0,none⟩:Addr).block < _ from by show g < _;omega)];exact z1
    obtain ⟨C,HC⟩:∃ C,Hid (wr.heap.size=C):=⟨_,rfl⟩
    have hCs:w.heap.size+2<=C:=by rw [<- HC.out];exact hsz
    rw [HC.out] at hi1 ⊢
    generalize wr.alloc (.cells #[.int .i64 1,.string e.key,.int .i64 e.t,.int .i64 e.v,.int .u32 (e.tag:Int)] 28)=W1 at *
    have HIT:=hid hi1
    obtain ⟨d0,d1,d2,d3,d4⟩:=itemAt hi1
    clear hi1 j0 j1 j2 j3 j4 e1 z1 HI HB HC hsz
    have HSt:=hid hst
    clear hst
    cases hin:inWin key s size e with
    | false=>
      have hfin:Hid (∀ m,WnInv w (W1.drewN m) (winF key s size (E.take (n+1))) tv):=fun m=>by
       have hI:=HI1.out
       rw [HSt.out,winStep,hin]
       simp only [Bool.false_eq_true,if_false]
       exact ⟨hI.row.congr (fun k _=>by simp),hI.blk,below_drewN hI.below m,by simpa using hI.size,by simpa using hI.res,by simpa using hI.box⟩
      unfold inWin at hin
      by_cases hk:e.key=key
      . have hkb:(e.key.toList == key.toList)=true:=(keyEq_iff _ _).2 hk
        by_cases hlo:e.t < s
        . clear hin
          go_quiet (fail)
          go_wp2
          go_roundw
          case rel=>exact ⟨n+1,tv,by omega,by go_num,hfin.out _⟩
          case measure=>simp [intOf];omega
        . have hhi:s+size - 1 < e.t:=by
           rw [(keyEq_iff _ _).2 hk,decide_eq_true (show s<=e.t by omega)] at hin
           simp at hin;omega
          clear hin
          go_quiet (fail)
          go_wp2
          go_roundw
          case rel=>exact ⟨n+1,tv,by omega,by go_num,hfin.out _⟩
          case measure=>simp [intOf];omega
      . have hkb:(e.key.toList == key.toList)=false:=(keyEq_false _ _).2 hk
        clear hin
        go_quiet (fail)
        go_wp2
        go_roundw
        case rel=>exact ⟨n+1,tv,by omega,by go_num,hfin.out _⟩
        case measure=>simp [intOf];omega
    | true=>
      have hin':=hin
      unfold inWin at hin'
      simp only [Bool.and_eq_true,decide_eq_true_eq] at hin'
      obtain ⟨hk,hlo,hhi⟩:=hin'
      have hkb:(e.key.toList == key.toList)=true:=hk
      have hlo':¬ e.t < s:=by omega
      have hhi':¬ s+size - 1 < e.t:=by omega
      have HSt2:Hid (winF key s size (E.take (n+1))=winStep key s size (winF key s size (E.take n)) e/\inWin key s size e=true):=⟨HSt.out,hin⟩
      have hbd:=winF_bound key s size (E.take n)
      rw [List.length_take] at hbd
      clear HSt hin hk hlo hhi
      go_quiet (fail)
      have HI2:Hid (WnInv w (W1.drewN nq) (winF key s size (E.take n)) tv):=by
       have hI:=HI1.out
       exact ⟨hI.row.congr (fun k _=>by simp),hI.blk,below_drewN hI.below _,by simpa using hI.size,by simpa using hI.res,by simpa using hI.box⟩
      have HIT2:Hid ((W1.drewN nq).heap[C]?=some (.cells #[.int .i64 1,.string e.key,.int .i64 e.t,.int .i64 e.v,.int .u32 (e.tag:Int)] 28 (0,0))):=by show _=_;simpa using HIT.out
      clear d0 d1 d2 d3 d4 z2 HI1 HIT hkb hlo' hhi'
      generalize W1.drewN nq=W2 at *
      generalize winF key s size (E.take n)=x at *
      have hI2:=HI2.out
      obtain ⟨b0,b1,b2,b3,b4,b5,b6,bf⟩:=cells7At hI2.box
      obtain ⟨d0,d1,d2,d3,d4⟩:=itemAt HIT2.out
      clear hI2
      have hCB:¬ w.heap.size+1=C:=by omega
      have hBC:¬ C=w.heap.size+1:=by omega
      have hwc:IntKind.i64.wrap (x.cnt+1)=x.cnt+1:=by rw [IntKind.wrap_i64];omega
      have hwc2:wrap64 (x.cnt+1)=x.cnt+1:=by unfold wrap64;omega
      by_cases hc:x.cnt=0
      . have HC:=hid hc
        clear hc
        have HI4:Hid (WnInv w ((((W2.setCell ⟨w.heap.size+1,4,none⟩ (.int .i64 e.v)).setCell ⟨w.heap.size+1,5,none⟩ (.int .i64 e.v)).setCell ⟨w.heap.size+1,2,none⟩ (.int .i64 (1))).setCell ⟨w.heap.size+1,3,none⟩ (.int .i64 (wrap64 (x.sum+e.v)))) ⟨x.key,x.start,1,wrap64 (x.sum+e.v),e.v,e.v,x.tags⟩ tv):=by
         have h2:WnInv w (((W2.setCell ⟨w.heap.size+1,4,none⟩ (.int .i64 e.v)).setCell ⟨w.heap.size+1,5,none⟩ (.int .i64 e.v)).setCell ⟨w.heap.size+1,2,none⟩ (.int .i64 (1))) ⟨x.key,x.start,1,x.sum,e.v,e.v,x.tags⟩ tv:=((show WnInv w ((W2.setCell ⟨w.heap.size+1,4,none⟩ (.int .i64 e.v)).setCell ⟨w.heap.size+1,5,none⟩ (.int .i64 e.v)) ⟨x.key,x.start,x.cnt,x.sum,e.v,e.v,x.tags⟩ tv from (show WnInv w (W2.setCell ⟨w.heap.size+1,4,none⟩ (.int .i64 e.v)) ⟨x.key,x.start,x.cnt,x.sum,e.v,x.hi,x.tags⟩ tv from HI2.out.putI 4 _ rfl rfl).putI 5 _ rfl rfl)).putI 2 _ rfl rfl
         exact h2.putI 3 _ rfl rfl
        have HS:Hid (winStep key s size x e=⟨x.key,x.start,1,wrap64 (x.sum+e.v),e.v,e.v,taggedL x.tags e.tag⟩):=by
         show _=_
         rw [winStep,if_pos HSt2.out.2,if_pos (.inl HC.out),if_pos (.inl HC.out),HC.out];rfl
        have hwc0:IntKind.i64.wrap (0+1)=1:=by decide
        rw [HC.out] at b2
        go_wp2_with fail
        generalize (((W2.setCell ⟨w.heap.size+1,4,none⟩ (.int .i64 e.v)).setCell ⟨w.heap.size+1,5,none⟩ (.int .i64 e.v)).setCell ⟨w.heap.size+1,2,none⟩ (.int .i64 (1))).setCell ⟨w.heap.size+1,3,none⟩ (.int .i64 (wrap64 (x.sum+e.v)))=W4 at *
        refine (tagged_any tv x.tags e.tag W4 HI4.out.row (by omega)).mono ?_
        rintro en W5 ⟨tv',rfl,hr5,hb5,hB5⟩
        have HI5:Hid (WnInv w (W5.setCell ⟨w.heap.size+1,6,none⟩ tv') (winF key s size (E.take (n+1))) tv'):=by
         have hI:=HI4.out
         have h5:WnInv w W5 ⟨x.key,x.start,1,wrap64 (x.sum+e.v),e.v,e.v,x.tags⟩ tv:=⟨hI.row.below hB5 (fun k hk=>(hI.row.blk_lt hk).1),hI.blk,hI.below.trans (hB5.mono (by have:=hI.size;omega)),by have:=hI.size;have:=hB5.size;omega,(hB5.block _ (by have:=hI.size;omega)).trans hI.res,(hB5.block _ (by have:=hI.size;omega)).trans hI.box⟩
         rw [HSt2.out.1,HS.out]
         exact h5.put 6 tv' rfl hr5 (fun k hk=>by have:=hb5 k hk;have:=hI.size;omega)
        obtain ⟨a5,c5,hv5,-⟩:=hr5.slice
        rw [List.length_map] at hv5
        have b6':∃ u,W5.cell? ⟨w.heap.size+1,6,none⟩=some u/\W5.frozen? ⟨w.heap.size+1,6,none⟩=false:=by
         have hI:=HI4.out
         have hbx:=(hB5.block _ (show w.heap.size+1 < _ by have:=hI.size;omega)).trans hI.box
         obtain ⟨-,-,-,-,-,-,q6,qf⟩:=cells7At hbx
         exact ⟨_,q6,qf 6⟩
        obtain ⟨u6,b6,f6⟩:=b6'
        clear hr5 hb5 hB5 HI4 HS
        subst hv5
        go_wp2_with fail
        go_roundw
        case rel=>exact ⟨n+1,_,by omega,by go_num,HI5.out⟩
        case measure=>simp [intOf];omega
      . have HC:=hid hc
        by_cases hlo:e.v < x.lo
        . by_cases hhi:x.hi < e.v
          . have HLo:=hid hlo
            have HHi:=hid hhi
            have HI4:Hid (WnInv w ((((W2.setCell ⟨w.heap.size+1,4,none⟩ (.int .i64 e.v)).setCell ⟨w.heap.size+1,5,none⟩ (.int .i64 e.v)).setCell ⟨w.heap.size+1,2,none⟩ (.int .i64 (x.cnt+1))).setCell ⟨w.heap.size+1,3,none⟩ (.int .i64 (wrap64 (x.sum+e.v)))) ⟨x.key,x.start,x.cnt+1,wrap64 (x.sum+e.v),e.v,e.v,x.tags⟩ tv):=by
             have h2:WnInv w (((W2.setCell ⟨w.heap.size+1,4,none⟩ (.int .i64 e.v)).setCell ⟨w.heap.size+1,5,none⟩ (.int .i64 e.v)).setCell ⟨w.heap.size+1,2,none⟩ (.int .i64 (x.cnt+1))) ⟨x.key,x.start,x.cnt+1,x.sum,e.v,e.v,x.tags⟩ tv:=((show WnInv w ((W2.setCell ⟨w.heap.size+1,4,none⟩ (.int .i64 e.v)).setCell ⟨w.heap.size+1,5,none⟩ (.int .i64 e.v)) ⟨x.key,x.start,x.cnt,x.sum,e.v,e.v,x.tags⟩ tv from (show WnInv w (W2.setCell ⟨w.heap.size+1,4,none⟩ (.int .i64 e.v)) ⟨x.key,x.start,x.cnt,x.sum,e.v,x.hi,x.tags⟩ tv from HI2.out.putI 4 _ rfl rfl).putI 5 _ rfl rfl)).putI 2 _ rfl rfl
             exact h2.putI 3 _ rfl rfl
            have HS:Hid (winStep key s size x e=⟨x.key,x.start,x.cnt+1,wrap64 (x.sum+e.v),e.v,e.v,taggedL x.tags e.tag⟩):=by
             show _=_
             rw [winStep,if_pos HSt2.out.2,if_pos (.inr HLo.out),if_pos (.inr HHi.out)]
            go_wp2_with fail
            generalize (((W2.setCell ⟨w.heap.size+1,4,none⟩ (.int .i64 e.v)).setCell ⟨w.heap.size+1,5,none⟩ (.int .i64 e.v)).setCell ⟨w.heap.size+1,2,none⟩ (.int .i64 (x.cnt+1))).setCell ⟨w.heap.size+1,3,none⟩ (.int .i64 (wrap64 (x.sum+e.v)))=W4 at *
            refine (tagged_any tv x.tags e.tag W4 HI4.out.row (by omega)).mono ?_
            rintro en W5 ⟨tv',rfl,hr5,hb5,hB5⟩
            have HI5:Hid (WnInv w (W5.setCell ⟨w.heap.size+1,6,none⟩ tv') (winF key s size (E.take (n+1))) tv'):=by
             have hI:=HI4.out
             have h5:WnInv w W5 ⟨x.key,x.start,x.cnt+1,wrap64 (x.sum+e.v),e.v,e.v,x.tags⟩ tv:=⟨hI.row.below hB5 (fun k hk=>(hI.row.blk_lt hk).1),hI.blk,hI.below.trans (hB5.mono (by have:=hI.size;omega)),by have:=hI.size;have:=hB5.size;omega,(hB5.block _ (by have:=hI.size;omega)).trans hI.res,(hB5.block _ (by have:=hI.size;omega)).trans hI.box⟩
             rw [HSt2.out.1,HS.out]
             exact h5.put 6 tv' rfl hr5 (fun k hk=>by have:=hb5 k hk;have:=hI.size;omega)
            obtain ⟨a5,c5,hv5,-⟩:=hr5.slice
            rw [List.length_map] at hv5
            have b6':∃ u,W5.cell? ⟨w.heap.size+1,6,none⟩=some u/\W5.frozen? ⟨w.heap.size+1,6,none⟩=false:=by
             have hI:=HI4.out
             have hbx:=(hB5.block _ (show w.heap.size+1 < _ by have:=hI.size;omega)).trans hI.box
             obtain ⟨-,-,-,-,-,-,q6,qf⟩:=cells7At hbx
             exact ⟨_,q6,qf 6⟩
            obtain ⟨u6,b6,f6⟩:=b6'
            clear hr5 hb5 hB5 HI4 HS
            subst hv5
            go_wp2_with fail
            go_roundw
            case rel=>exact ⟨n+1,_,by omega,by go_num,HI5.out⟩
            case measure=>simp [intOf];omega
          . have HLo:=hid hlo
            have HHi:=hid hhi
            have HI4:Hid (WnInv w (((W2.setCell ⟨w.heap.size+1,4,none⟩ (.int .i64 e.v)).setCell ⟨w.heap.size+1,2,none⟩ (.int .i64 (x.cnt+1))).setCell ⟨w.heap.size+1,3,none⟩ (.int .i64 (wrap64 (x.sum+e.v)))) ⟨x.key,x.start,x.cnt+1,wrap64 (x.sum+e.v),e.v,x.hi,x.tags⟩ tv):=by
             have h2:WnInv w ((W2.setCell ⟨w.heap.size+1,4,none⟩ (.int .i64 e.v)).setCell ⟨w.heap.size+1,2,none⟩ (.int .i64 (x.cnt+1))) ⟨x.key,x.start,x.cnt+1,x.sum,e.v,x.hi,x.tags⟩ tv:=((show WnInv w (W2.setCell ⟨w.heap.size+1,4,none⟩ (.int .i64 e.v)) ⟨x.key,x.start,x.cnt,x.sum,e.v,x.hi,x.tags⟩ tv from HI2.out.putI 4 _ rfl rfl)).putI 2 _ rfl rfl
             exact h2.putI 3 _ rfl rfl
            have HS:Hid (winStep key s size x e=⟨x.key,x.start,x.cnt+1,wrap64 (x.sum+e.v),e.v,x.hi,taggedL x.tags e.tag⟩):=by
             show _=_
             rw [winStep,if_pos HSt2.out.2,if_pos (.inr HLo.out),if_neg (by rintro (h | h);exact HC.out h;exact HHi.out h)]
            go_wp2_with fail
            generalize ((W2.setCell ⟨w.heap.size+1,4,none⟩ (.int .i64 e.v)).setCell ⟨w.heap.size+1,2,none⟩ (.int .i64 (x.cnt+1))).setCell ⟨w.heap.size+1,3,none⟩ (.int .i64 (wrap64 (x.sum+e.v)))=W4 at *
            refine (tagged_any tv x.tags e.tag W4 HI4.out.row (by omega)).mono ?_
            rintro en W5 ⟨tv',rfl,hr5,hb5,hB5⟩
            have HI5:Hid (WnInv w (W5.setCell ⟨w.heap.size+1,6,none⟩ tv') (winF key s size (E.take (n+1))) tv'):=by
             have hI:=HI4.out
             have h5:WnInv w W5 ⟨x.key,x.start,x.cnt+1,wrap64 (x.sum+e.v),e.v,x.hi,x.tags⟩ tv:=⟨hI.row.below hB5 (fun k hk=>(hI.row.blk_lt hk).1),hI.blk,hI.below.trans (hB5.mono (by have:=hI.size;omega)),by have:=hI.size;have:=hB5.size;omega,(hB5.block _ (by have:=hI.size;omega)).trans hI.res,(hB5.block _ (by have:=hI.size;omega)).trans hI.box⟩
             rw [HSt2.out.1,HS.out]
             exact h5.put 6 tv' rfl hr5 (fun k hk=>by have:=hb5 k hk;have:=hI.size;omega)
            obtain ⟨a5,c5,hv5,-⟩:=hr5.slice
            rw [List.length_map] at hv5
            have b6':∃ u,W5.cell? ⟨w.heap.size+1,6,none⟩=some u/\W5.frozen? ⟨w.heap.size+1,6,none⟩=false:=by
             have hI:=HI4.out
             have hbx:=(hB5.block _ (show w.heap.size+1 < _ by have:=hI.size;omega)).trans hI.box
             obtain ⟨-,-,-,-,-,-,q6,qf⟩:=cells7At hbx
             exact ⟨_,q6,qf 6⟩
            obtain ⟨u6,b6,f6⟩:=b6'
            clear hr5 hb5 hB5 HI4 HS
            subst hv5
            go_wp2_with fail
            go_roundw
            case rel=>exact ⟨n+1,_,by omega,by go_num,HI5.out⟩
            case measure=>simp [intOf];omega
        . by_cases hhi:x.hi < e.v
          . have HLo:=hid hlo
            have HHi:=hid hhi
            have HI4:Hid (WnInv w (((W2.setCell ⟨w.heap.size+1,5,none⟩ (.int .i64 e.v)).setCell ⟨w.heap.size+1,2,none⟩ (.int .i64 (x.cnt+1))).setCell ⟨w.heap.size+1,3,none⟩ (.int .i64 (wrap64 (x.sum+e.v)))) ⟨x.key,x.start,x.cnt+1,wrap64 (x.sum+e.v),x.lo,e.v,x.tags⟩ tv):=by
             have h2:WnInv w ((W2.setCell ⟨w.heap.size+1,5,none⟩ (.int .i64 e.v)).setCell ⟨w.heap.size+1,2,none⟩ (.int .i64 (x.cnt+1))) ⟨x.key,x.start,x.cnt+1,x.sum,x.lo,e.v,x.tags⟩ tv:=((show WnInv w (W2.setCell ⟨w.heap.size+1,5,none⟩ (.int .i64 e.v)) ⟨x.key,x.start,x.cnt,x.sum,x.lo,e.v,x.tags⟩ tv from HI2.out.putI 5 _ rfl rfl)).putI 2 _ rfl rfl
             exact h2.putI 3 _ rfl rfl
            have HS:Hid (winStep key s size x e=⟨x.key,x.start,x.cnt+1,wrap64 (x.sum+e.v),x.lo,e.v,taggedL x.tags e.tag⟩):=by
             show _=_
             rw [winStep,if_pos HSt2.out.2,if_neg (by rintro (h | h);exact HC.out h;exact HLo.out h),if_pos (.inr HHi.out)]
            go_wp2_with fail
            generalize ((W2.setCell ⟨w.heap.size+1,5,none⟩ (.int .i64 e.v)).setCell ⟨w.heap.size+1,2,none⟩ (.int .i64 (x.cnt+1))).setCell ⟨w.heap.size+1,3,none⟩ (.int .i64 (wrap64 (x.sum+e.v)))=W4 at *
            refine (tagged_any tv x.tags e.tag W4 HI4.out.row (by omega)).mono ?_
            rintro en W5 ⟨tv',rfl,hr5,hb5,hB5⟩
            have HI5:Hid (WnInv w (W5.setCell ⟨w.heap.size+1,6,none⟩ tv') (winF key s size (E.take (n+1))) tv'):=by
             have hI:=HI4.out
             have h5:WnInv w W5 ⟨x.key,x.start,x.cnt+1,wrap64 (x.sum+e.v),x.lo,e.v,x.tags⟩ tv:=⟨hI.row.below hB5 (fun k hk=>(hI.row.blk_lt hk).1),hI.blk,hI.below.trans (hB5.mono (by have:=hI.size;omega)),by have:=hI.size;have:=hB5.size;omega,(hB5.block _ (by have:=hI.size;omega)).trans hI.res,(hB5.block _ (by have:=hI.size;omega)).trans hI.box⟩
             rw [HSt2.out.1,HS.out]
             exact h5.put 6 tv' rfl hr5 (fun k hk=>by have:=hb5 k hk;have:=hI.size;omega)
            obtain ⟨a5,c5,hv5,-⟩:=hr5.slice
            rw [List.length_map] at hv5
            have b6':∃ u,W5.cell? ⟨w.heap.size+1,6,none⟩=some u/\W5.frozen? ⟨w.heap.size+1,6,none⟩=false:=by
             have hI:=HI4.out
             have hbx:=(hB5.block _ (show w.heap.size+1 < _ by have:=hI.size;omega)).trans hI.box
             obtain ⟨-,-,-,-,-,-,q6,qf⟩:=cells7At hbx
             exact ⟨_,q6,qf 6⟩
            obtain ⟨u6,b6,f6⟩:=b6'
            clear hr5 hb5 hB5 HI4 HS
            subst hv5
            go_wp2_with fail
            go_roundw
            case rel=>exact ⟨n+1,_,by omega,by go_num,HI5.out⟩
            case measure=>simp [intOf];omega
          . have HLo:=hid hlo
            have HHi:=hid hhi
            have HI4:Hid (WnInv w ((W2.setCell ⟨w.heap.size+1,2,none⟩ (.int .i64 (x.cnt+1))).setCell ⟨w.heap.size+1,3,none⟩ (.int .i64 (wrap64 (x.sum+e.v)))) ⟨x.key,x.start,x.cnt+1,wrap64 (x.sum+e.v),x.lo,x.hi,x.tags⟩ tv):=by
             have h2:WnInv w (W2.setCell ⟨w.heap.size+1,2,none⟩ (.int .i64 (x.cnt+1))) ⟨x.key,x.start,x.cnt+1,x.sum,x.lo,x.hi,x.tags⟩ tv:=((show WnInv w W2 ⟨x.key,x.start,x.cnt,x.sum,x.lo,x.hi,x.tags⟩ tv from HI2.out)).putI 2 _ rfl rfl
             exact h2.putI 3 _ rfl rfl
            have HS:Hid (winStep key s size x e=⟨x.key,x.start,x.cnt+1,wrap64 (x.sum+e.v),x.lo,x.hi,taggedL x.tags e.tag⟩):=by
             show _=_
             rw [winStep,if_pos HSt2.out.2,if_neg (by rintro (h | h);exact HC.out h;exact HLo.out h),if_neg (by rintro (h | h);exact HC.out h;exact HHi.out h)]
            go_wp2_with fail
            generalize (W2.setCell ⟨w.heap.size+1,2,none⟩ (.int .i64 (x.cnt+1))).setCell ⟨w.heap.size+1,3,none⟩ (.int .i64 (wrap64 (x.sum+e.v)))=W4 at *
            refine (tagged_any tv x.tags e.tag W4 HI4.out.row (by omega)).mono ?_
            rintro en W5 ⟨tv',rfl,hr5,hb5,hB5⟩
            have HI5:Hid (WnInv w (W5.setCell ⟨w.heap.size+1,6,none⟩ tv') (winF key s size (E.take (n+1))) tv'):=by
             have hI:=HI4.out
             have h5:WnInv w W5 ⟨x.key,x.start,x.cnt+1,wrap64 (x.sum+e.v),x.lo,x.hi,x.tags⟩ tv:=⟨hI.row.below hB5 (fun k hk=>(hI.row.blk_lt hk).1),hI.blk,hI.below.trans (hB5.mono (by have:=hI.size;omega)),by have:=hI.size;have:=hB5.size;omega,(hB5.block _ (by have:=hI.size;omega)).trans hI.res,(hB5.block _ (by have:=hI.size;omega)).trans hI.box⟩
             rw [HSt2.out.1,HS.out]
             exact h5.put 6 tv' rfl hr5 (fun k hk=>by have:=hb5 k hk;have:=hI.size;omega)
            obtain ⟨a5,c5,hv5,-⟩:=hr5.slice
            rw [List.length_map] at hv5
            have b6':∃ u,W5.cell? ⟨w.heap.size+1,6,none⟩=some u/\W5.frozen? ⟨w.heap.size+1,6,none⟩=false:=by
             have hI:=HI4.out
             have hbx:=(hB5.block _ (show w.heap.size+1 < _ by have:=hI.size;omega)).trans hI.box
             obtain ⟨-,-,-,-,-,-,q6,qf⟩:=cells7At hbx
             exact ⟨_,q6,qf 6⟩
            obtain ⟨u6,b6,f6⟩:=b6'
            clear hr5 hb5 hB5 HI4 HS
            subst hv5
            go_wp2_with fail
            go_roundw
            case rel=>exact ⟨n+1,_,by omega,by go_num,HI5.out⟩
            case measure=>simp [intOf];omega
  . have hnE:n=E.length:=by omega
    subst hnE
    have hI:=HI.out
    rw [List.take_length] at hI
    have HF:=hid hI
    clear HI
    obtain ⟨x,HX⟩:∃ x,Hid (winF key s size E=x):=⟨_,rfl⟩
    rw [HX.out] at hI HF
    obtain ⟨b0,b1,b2,b3,b4,b5,b6,bf⟩:=cells7At hI.box
    obtain ⟨q0,q1,q2,q3,q4,q5,q6,qf⟩:=cells7At hI.res
    obtain ⟨a5,c5,hv5,-⟩:=hI.row.slice
    rw [List.length_map] at hv5
    subst hv5
    clear hI
    have hW:=cells7Put (y0:=.string x.key) (y1:=.int .i64 x.start) (y2:=.int .i64 x.cnt) (y3:=.int .i64 x.sum) (y4:=.int .i64 x.lo) (y5:=.int .i64 x.hi) (y6:=.slice a5 x.tags.length c5) HF.out.res
    have HB9:Hid (Below w.heap.size w (((((((wr.setCell ⟨w.heap.size,0,none⟩ (.string x.key)).setCell ⟨w.heap.size,1,none⟩ (.int .i64 x.start)).setCell ⟨w.heap.size,2,none⟩ (.int .i64 x.cnt)).setCell ⟨w.heap.size,3,none⟩ (.int .i64 x.sum)).setCell ⟨w.heap.size,4,none⟩ (.int .i64 x.lo)).setCell ⟨w.heap.size,5,none⟩ (.int .i64 x.hi)).setCell ⟨w.heap.size,6,none⟩ (.slice a5 x.tags.length c5))):=by
     show Below _ _ _
     refine Below.setCell (B:=w.heap.size) ?_ (by simp) _
     refine Below.setCell (B:=w.heap.size) ?_ (by simp) _
     refine Below.setCell (B:=w.heap.size) ?_ (by simp) _
     refine Below.setCell (B:=w.heap.size) ?_ (by simp) _
     refine Below.setCell (B:=w.heap.size) ?_ (by simp) _
     refine Below.setCell (B:=w.heap.size) ?_ (by simp) _
     refine Below.setCell (B:=w.heap.size) ?_ (by simp) _
     exact HF.out.below
    have HR9:Hid (Row (((((((wr.setCell ⟨w.heap.size,0,none⟩ (.string x.key)).setCell ⟨w.heap.size,1,none⟩ (.int .i64 x.start)).setCell ⟨w.heap.size,2,none⟩ (.int .i64 x.cnt)).setCell ⟨w.heap.size,3,none⟩ (.int .i64 x.sum)).setCell ⟨w.heap.size,4,none⟩ (.int .i64 x.lo)).setCell ⟨w.heap.size,5,none⟩ (.int .i64 x.hi)).setCell ⟨w.heap.size,6,none⟩ (.slice a5 x.tags.length c5)) 26 1 (.slice a5 x.tags.length c5) (x.tags.map tagV)):=by
     have hne:=HF.out.row.ne_block HF.out.res (by decide)
     show Row _ _ _ _ _
     refine Row.setCell ?_ _ _ hne
     refine Row.setCell ?_ _ _ hne
     refine Row.setCell ?_ _ _ hne
     refine Row.setCell ?_ _ _ hne
     refine Row.setCell ?_ _ _ hne
     refine Row.setCell ?_ _ _ hne
     refine Row.setCell ?_ _ _ hne
     exact HF.out.row
    go_wp2_with fail
    generalize (((((((wr.setCell ⟨w.heap.size,0,none⟩ (.string x.key)).setCell ⟨w.heap.size,1,none⟩ (.int .i64 x.start)).setCell ⟨w.heap.size,2,none⟩ (.int .i64 x.cnt)).setCell ⟨w.heap.size,3,none⟩ (.int .i64 x.sum)).setCell ⟨w.heap.size,4,none⟩ (.int .i64 x.lo)).setCell ⟨w.heap.size,5,none⟩ (.int .i64 x.hi)).setCell ⟨w.heap.size,6,none⟩ (.slice a5 x.tags.length c5))=W9 at *
    obtain ⟨y0,y1,y2,y3,y4,y5,y6,yf⟩:=cells7At hW
    clear hW
    exact bodyPost_ret (v:=winV x (.slice a5 x.tags.length c5)) (by simp [results,Tryz.results144,go_sem,y0,y1,y2,y3,y4,y5,y6,winV,winArr]) rfl ⟨.slice a5 x.tags.length c5,by rw [HX.out],by rw [HX.out];exact HR9.out,HF.out.blk,HB9.out⟩
end Go.Proofs.YtcfngdnmpogaoaaGreat
namespace Go.Proofs.YtcfngdnmpogaoaaGreat
open Go.RowKit
structure WinX where
 w:Win
 tv:Value
def wxCells (x:WinX):List Value:=[.string x.w.key,.int .i64 x.w.start,.int .i64 x.w.cnt,.int .i64 x.w.sum,.int .i64 x.w.lo,.int .i64 x.w.hi,x.tv]
theorem winFlat (l:List WinX) (j k:Nat) (e:WinX) (hs:l[j]?=some e) (hk:k < 7):(l.flatMap wxCells)[j*7+k]?=(wxCells e)[k]?:=by
 induction l generalizing j with
 | nil=>simp at hs
 | cons a l ih=>
   have ha:(wxCells a).length=7:=rfl
   cases j with
   | zero=>
     simp at hs
     subst hs
     rw [List.flatMap_cons,List.getElem?_append_left (by omega)]
     simp
   | succ j=>
     simp at hs
     rw [List.flatMap_cons,List.getElem?_append_right (by omega),<- ih j hs]
     congr 1
     omega
theorem winFlat_len (l:List WinX):(l.flatMap wxCells).length=7*l.length:=by
 induction l with
 | nil=>rfl
 | cons a l ih=>rw [List.flatMap_cons,List.length_append,ih];simp [wxCells];omega
structure WinsAt (w:World) (v:Value) (xs:List WinX) (B:Nat):Prop where
 row:Row w 70 7 v (xs.flatMap wxCells)
 tags:∀ x ∈ xs,Row w 26 1 x.tv (x.w.tags.map tagV)/\∀ k,x.tv.ownBlock=some k->B<=k
 blk:∀ k,v.ownBlock=some k->B<=k
 void:xs=[]->v=.slice none 0 0
theorem WinsAt.below {w w':World} {v:Value} {xs:List WinX} {B:Nat} (h:WinsAt w v xs B) (hb:Below w.heap.size w w'):WinsAt w' v xs B:=
 ⟨h.row.below hb (fun _ hk=>(h.row.blk_lt hk).1),fun x hx=>⟨(h.tags x hx).1.below hb (fun _ hk=>((h.tags x hx).1.blk_lt hk).1),(h.tags x hx).2⟩,h.blk,h.void⟩
theorem WinsAt.at {w:World} {v:Value} {xs:List WinX} {B:Nat} (h:WinsAt w v xs B) {n:Nat} {x:WinX} (hn:xs[n]?=some x):∃ g off cap,v=.slice (some ⟨g,off,none⟩) xs.length cap/\g < w.heap.size/\xs.length<=cap /\
 w.cell? ⟨g,off+n*7,none⟩=some (.string x.w.key)/\w.cell? ⟨g,off+n*7+1,none⟩=some (.int .i64 x.w.start):=by
 have hnl:n < xs.length:=(List.getElem?_eq_some_iff.1 hn).1
 rcases h.row with ⟨h1,h2⟩ | ⟨ge,off,m,cap,cur,h1,hg,h3,h4,h5,h6,h7⟩
 . have:=congrArg List.length h2
   rw [winFlat_len,List.length_nil] at this
   omega
 . have hlen:=winFlat_len xs
   rw [hlen] at h6
   have hm:m=xs.length:=by omega
   subst hm
   have hc:∀ k,k < 7->w.cell? ⟨ge,off+n*7+k,none⟩=(wxCells x)[k]?:=fun k hk=>by
    rw [<- winFlat xs n k x hn hk,<- h7 (n*7+k) (by omega)]
    simp [World.cell?,hg,Nat.add_assoc]
   exact ⟨ge,off,cap,h1,(Array.getElem?_eq_some_iff.1 hg).1,h3,hc 0 (by omega),hc 1 (by omega)⟩
theorem win_one (l:List WinX) (h:∀ x ∈ l,x.tv.oneCell'=true):∀ u ∈ l.flatMap wxCells,u.oneCell'=true:=fun u hu=>by
 obtain ⟨x,hx,hux⟩:=List.mem_flatMap.1 hu
 have:=h x hx
 simp only [wxCells,List.mem_cons,List.not_mem_nil,or_false] at hux
 rcases hux with rfl | rfl | rfl | rfl | rfl | rfl | rfl <;> simp_all [Value.oneCell']
def befW (key:ByteArray) (s:Int) (x:Win):Bool:=decide (x.start < s) || (decide (x.start=s) && Op.bytesLess x.key.toList key.toList)
def sameW (key:ByteArray) (s:Int) (x:Win):Bool:=decide (x.start=s) && keyEq x.key key
def atW (key:ByteArray) (s:Int) (ws:List Win):Nat:=(ws.takeWhile (befW key s)).length
def isAt (key:ByteArray) (s:Int) (ws:List Win):Bool:=match ws[atW key s ws]? with
 | some x=>sameW key s x
 | none=>false
def placeF (key:ByteArray) (s:Int) (x:Win) (ws:List Win):List Win:=if isAt key s ws then ws else ws.take (atW key s ws)++x :: ws.drop (atW key s ws)
theorem atW_le (key:ByteArray) (s:Int) (ws:List Win):atW key s ws<=ws.length:=(List.takeWhile_sublist _).length_le
theorem atW_spec (key:ByteArray) (s:Int) (ws:List Win):(∀ (i:Nat) x,i < atW key s ws->ws[i]?=some x->befW key s x=true)/\∀ x,ws[atW key s ws]?=some x->befW key s x=false:=by
 induction ws with
 | nil=>simp [atW]
 | cons a ws ih=>
   cases hb:befW key s a with
   | false=>
     have e:atW key s (a :: ws)=0:=by simp [atW,hb]
     rw [e]
     exact ⟨fun i x hi=>by omega,fun x hx=>by simp at hx;subst hx;exact hb⟩
   | true=>
     have e:atW key s (a :: ws)=atW key s ws+1:=by simp [atW,hb]
     rw [e]
     refine ⟨fun i x hi hx=>?_,fun x hx=>ih.2 x (by simpa using hx)⟩
     cases i with
     | zero=>simp at hx;subst hx;exact hb
     | succ i=>exact ih.1 i x (by omega) (by simpa using hx)
theorem atW_eq (key:ByteArray) (s:Int) (ws:List Win) (n:Nat) (hn:n<=ws.length) (h1:∀ (i:Nat) x,i < n->ws[i]?=some x->befW key s x=true) (h2:∀ x,ws[n]?=some x->befW key s x=false):atW key s ws=n:=by
 obtain ⟨a1,a2⟩:=atW_spec key s ws
 have a3:=atW_le key s ws
 rcases Nat.lt_trichotomy (atW key s ws) n with h | h | h
 . have hx:ws[atW key s ws]?=some ws[atW key s ws]:=List.getElem?_eq_getElem (by omega)
   have:=h1 _ _ h hx
   rw [a2 _ hx] at this;cases this
 . exact h
 . have hx:ws[n]?=some ws[n]:=List.getElem?_eq_getElem (by omega)
   have:=a1 _ _ h hx
   rw [h2 _ hx] at this;cases this
end Go.Proofs.YtcfngdnmpogaoaaGreat
