import Derived.Test.YtcfngdnmpogaoaaGreatTkU12
import Derived.Test.YtcfngdnmpogaoaaGreatTkT02
import Derived.Test.YtcfngdnmpogaoaaGreatTkU09
import Derived.Test.YtcfngdnmpogaoaaGreatTkU17
import Derived.StillTailTactics
namespace Go.Proofs.YtcfngdnmpogaoaaGreat
open Go.RowKit
set_option maxHeartbeats 6400000
set_option maxRecDepth 20000
theorem infoStr:(Tryz.prog.info? 9).map (fun i=>(i.zero,i.size,i.bytes))=some (some (.string ⟨#[]⟩),1,16):=by kernel_rfl
theorem str_src (w:World) (x:ByteArray):Src Tryz.prog 1 233 (.slice (some ⟨w.heap.size,0,none⟩) 1 1) 1 [.string x] (w.alloc (.cells #[.string x] 9)):=
 Src.ofSlice _ Tryz.underlying233 ⟨w.heap.size,0,none⟩ 1 1 _ rfl (one_new w _ _) (by simp [Value.oneCell'])
def isGoF (size slide lt:Int) (li:Bool) (E:List Ev) (key:ByteArray):Bool:=E.any fun e=>!behind size slide lt li e && keyEq e.key key
theorem isGoF_take (size slide lt:Int) (li:Bool) (E:List Ev) (key:ByteArray) (n:Nat) (e:Ev) (h:E[n]?=some e):isGoF size slide lt li (E.take (n+1)) key=(isGoF size slide lt li (E.take n) key || (!behind size slide lt li e && keyEq e.key key)):=by
 have hn:n < E.length:=(List.getElem?_eq_some_iff.1 h).1
 have he:E[n]=e:=(List.getElem?_eq_some_iff.1 h).2
 unfold isGoF
 rw [List.take_succ_eq_append_getElem hn,List.any_append,he];simp
theorem goKeys_take (size slide lt:Int) (li:Bool) (E:List Ev) (n:Nat) (e:Ev) (h:E[n]?=some e):goKeys size slide lt li (E.take (n+1))=if behind size slide lt li e || (goKeys size slide lt li (E.take n)).any (fun k=>keyEq k e.key) then goKeys size slide lt li (E.take n) else goKeys size slide lt li (E.take n)++[e.key]:=by
 have hn:n < E.length:=(List.getElem?_eq_some_iff.1 h).1
 have he:E[n]=e:=(List.getElem?_eq_some_iff.1 h).2
 rw [List.take_succ_eq_append_getElem hn,goKeys_snoc,he]
theorem goKeys_len (size slide lt:Int) (li:Bool) (E:List Ev):(goKeys size slide lt li E).length<=E.length:=by
 induction E using snoc_ind with
 | nil=>simp [goKeys]
 | snoc E e ih=>
   rw [goKeys_snoc]
   split
   . simp;omega
   . simp;omega
def strV (b:ByteArray):Value:=.string b
structure GoInv (w wr:World) (ks:List ByteArray) (v:Value):Prop where
 row:Row wr 9 1 v (ks.map strV)
 blk:∀ k,v.ownBlock=some k->w.heap.size<=k
 below:Below w.heap.size w wr
theorem going_any (g:Nat) (r:RCells) (E:List Ev) (key:ByteArray) (w:World) (h:REv w g r E) (hE:E.length<=100000000) (hev:∀ e ∈ E,evOk e) (hc1:1<=r.slide) (hc2:r.slide<=r.size) (hc3:r.size<=1099511627776) :
 Calls Tryz.prog 117 #[.pointer (some ⟨g,0,none⟩),.string key] w fun e w'=>e=.returned (.tuple #[.bool (isGoF r.size r.slide r.line r.lined E key),.int .i64 ((goKeys r.size r.slide r.line r.lined E).length:Int)])/\Below w.heap.size w w':=by
 obtain ⟨i,hi,hz0,hz1,hz2⟩:=info_parts infoStr
 have H:=hid h
 have HEv:=hid hev
 have hglt:=h.rf.lt
 obtain ⟨ea,ec,hvv⟩:=h.shape
 have e0:=h.rf.tailAt 0 rfl
 have l0:=h.rf.tailAt 1 rfl
 have t0:=h.rf.tailAt 2 rfl
 have z0:=h.rf.headAt 0 rfl
 have s0:=h.rf.headAt 1 rfl
 rw [hvv] at e0
 obtain ⟨size,hsize⟩:∃ z,r.size=z:=⟨_,rfl⟩
 obtain ⟨slide,hslide⟩:∃ z,r.slide=z:=⟨_,rfl⟩
 obtain ⟨line,hline⟩:∃ z,r.line=z:=⟨_,rfl⟩
 obtain ⟨lined,hlined⟩:∃ z,r.lined=z:=⟨_,rfl⟩
 rw [hsize] at z0 hc2 hc3
 rw [hslide] at s0 hc1 hc2
 rw [hline] at t0
 rw [hlined] at l0
 rw [hsize,hslide,hline,hlined]
 clear h hev
 go_enter Tryz.func117,Tryz.ntmps117
 go_wp2_with fail
 go_loopw [6,7,8] (fun v o c wr=>∃ (n:Nat),n<=E.length/\c=.int .i64 (n:Int)/\o=.bool (isGoF size slide line lined (E.take n) key)/\GoInv w wr (goKeys size slide line lined (E.take n)) v) (fun _ _ c _=>E.length - (intOf c).toNat)
 case atStart=>exact ⟨0,Nat.zero_le _,rfl,rfl,Row.nil _ _ _,fun k hk=>by simp [Value.ownBlock] at hk,Below.refl _ _⟩
 case round=>
  obtain ⟨n,hn,rfl,rfl,hI⟩:=hrel
  have HI:=hid hI
  have hB:=hI.below
  have e1:wr.cell? ⟨g,44,none⟩=some (.slice ea E.length ec):=by rw [hB.cell (show (⟨g,44,none⟩:Addr).block < _ from hglt)];exact e0
  by_cases hlt:n < E.length
  . have hx:E[n]?=some E[n]:=List.getElem?_eq_getElem hlt
    have hgs:=goKeys_take size slide line lined E n _ hx
    have his:=isGoF_take size slide line lined E key n _ hx
    have hek:=HEv.out E[n] (by simp)
    generalize E[n]=e at *
    obtain ⟨ge,eo,ec',hv,hgl,i0,i1,i2,i3,i4⟩:=H.out.item hx
    rw [hvv] at hv
    simp only [Value.slice.injEq] at hv
    obtain ⟨rfl,-,rfl⟩:=hv
    have j0:wr.cell? ⟨ge,eo+n*5,none⟩=some (.int .i64 1):=by rw [hB.cell (show (⟨ge,eo+n*5,none⟩:Addr).block < _ from hgl)];exact i0
    have j1:wr.cell? ⟨ge,eo+n*5+1,none⟩=some (.string e.key):=by rw [hB.cell (show (⟨ge,eo+n*5+1,none⟩:Addr).block < _ from hgl)];exact i1
    have j2:wr.cell? ⟨ge,eo+n*5+2,none⟩=some (.int .i64 e.t):=by rw [hB.cell (show (⟨ge,eo+n*5+2,none⟩:Addr).block < _ from hgl)];exact i2
    have j3:wr.cell? ⟨ge,eo+n*5+3,none⟩=some (.int .i64 e.v):=by rw [hB.cell (show (⟨ge,eo+n*5+3,none⟩:Addr).block < _ from hgl)];exact i3
    have j4:wr.cell? ⟨ge,eo+n*5+4,none⟩=some (.int .u32 (e.tag:Int)):=by rw [hB.cell (show (⟨ge,eo+n*5+4,none⟩:Addr).block < _ from hgl)];exact i4
    have hnl:(n:Int) < (E.length:Int):=by omega
    have hwn:IntKind.i64.wrap ((n:Int)+1)=(n:Int)+1:=by rw [IntKind.wrap_i64];omega
    have hBs:=hB.size
    clear i0 i1 i2 i3 i4 hI
    go_upto_region 7 with fail
    have hb1:Below w.heap.size w (wr.alloc (.cells #[.int .i64 1,.string e.key,.int .i64 e.t,.int .i64 e.v,.int .u32 (e.tag:Int)] 28)):=hB.alloc hBs _
    have HI1:Hid (GoInv w (wr.alloc (.cells #[.int .i64 1,.string e.key,.int .i64 e.t,.int .i64 e.v,.int .u32 (e.tag:Int)] 28)) (goKeys size slide line lined (E.take n)) u6):=⟨HI.out.row.alloc _,HI.out.blk,hb1⟩
    have hi1:=heap_alloc_new wr (.cells #[.int .i64 1,.string e.key,.int .i64 e.t,.int .i64 e.v,.int .u32 (e.tag:Int)] 28)
    obtain ⟨C,HC⟩:∃ C,Hid (wr.heap.size=C):=⟨_,rfl⟩
    rw [HC.out] at hi1 hBs ⊢
    generalize wr.alloc (.cells #[.int .i64 1,.string e.key,.int .i64 e.t,.int .i64 e.v,.int .u32 (e.tag:Int)] 28)=W1 at *
    have HIT:=hid hi1
    obtain ⟨d0,d1,d2,d3,d4⟩:=itemAt hi1
    have z1:W1.cell? ⟨g,0,none⟩=some (.int .i64 size):=by rw [hb1.cell (show (⟨g,0,none⟩:Addr).block < _ from hglt)];exact z0
    have s1:W1.cell? ⟨g,1,none⟩=some (.int .i64 slide):=by rw [hb1.cell (show (⟨g,1,none⟩:Addr).block < _ from hglt)];exact s0
    have HB1:=hid hb1
    clear hi1 j0 j1 j2 j3 j4 e1 HC hb1 hB HI
    have HGs:=hid hgs
    have HIs:=hid his
    clear hgs his hx
    obtain ⟨-,ht1,ht2⟩:=hek
    have hfl:=fun W=>floor_any e.t slide W hc1 (by omega) ht1 ht2
    have hdl:=down_le e.t slide hc1
    have hww:IntKind.i64.wrap (down e.t slide+size)=down e.t slide+size:=by rw [IntKind.wrap_i64];omega
    have HBe:Hid (behind size slide line lined e=(lined && decide (down e.t slide+size<=line))):=rfl
    generalize down e.t slide=dn at *
    go_quiet ((go_at_call 115;exact Calls.quiet_of_same (hfl _)))
    have HI2:Hid (GoInv w (W1.drewN nq) (goKeys size slide line lined (E.take n)) u6):=⟨HI1.out.row.congr (fun k _=>by simp),HI1.out.blk,below_drewN HI1.out.below _⟩
    have HIT2:Hid ((W1.drewN nq).heap[C]?=some (.cells #[.int .i64 1,.string e.key,.int .i64 e.t,.int .i64 e.v,.int .u32 (e.tag:Int)] 28 (0,0))):=by show _=_;simpa using HIT.out
    have l2:(W1.drewN nq).cell? ⟨g,45,none⟩=some (.bool lined):=by rw [HI2.out.below.cell (show (⟨g,45,none⟩:Addr).block < _ from hglt)];exact l0
    have t2:(W1.drewN nq).cell? ⟨g,46,none⟩=some (.int .i64 line):=by rw [HI2.out.below.cell (show (⟨g,46,none⟩:Addr).block < _ from hglt)];exact t0
    clear d0 d1 d2 d3 d4 z1 s1 HIT HI1 HB1
    generalize W1.drewN nq=W2 at *
    obtain ⟨d0,d1,d2,d3,d4⟩:=itemAt HIT2.out
    obtain ⟨ks,HKs⟩:∃ ks,Hid (goKeys size slide line lined (E.take n)=ks):=⟨_,rfl⟩
    rw [HKs.out] at HI2 HGs
    generalize isGoF size slide line lined (E.take n) key=is at *
    go_upto_region 8 with fail
    go_cut [54] from 43 to 54 (fun s54 wx=>s54=.bool (behind size slide line lined e)/\W2=wx)
    case first=>
     cases lined with
     | false=>
       go_wp2_with fail
       go_meet
       exact ⟨by rw [HBe.out];rfl,rfl⟩
     | true=>
       by_cases hle:dn+size<=line
       . go_wp2_with fail
         go_meet
         exact ⟨by rw [HBe.out,decide_eq_true hle];rfl,rfl⟩
       . go_wp2_with fail
         go_meet
         exact ⟨by rw [HBe.out,decide_eq_false (by omega)];rfl,rfl⟩
    case rest=>
     obtain ⟨rfl,rfl⟩:=hcut
     clear l2 t2
     cases hbe:behind size slide line lined e with
     | true=>
       have HIs2:Hid (isGoF size slide line lined (E.take (n+1)) key=is):=by show _=_;rw [HIs.out,hbe];simp
       have HGs2:Hid (goKeys size slide line lined (E.take (n+1))=ks):=by show _=_;rw [HGs.out,hbe];simp
       go_wp2_with fail
       go_roundw
       case rel=>exact ⟨n+1,by omega,by go_num,by rw [HIs2.out],by rw [HGs2.out];exact HI2.out⟩
       case measure=>simp [intOf];omega
     | false=>
       have HIs2:Hid (isGoF size slide line lined (E.take (n+1)) key=(is || keyEq e.key key)):=by show _=_;rw [HIs.out,hbe];simp
       have HGs2:Hid (goKeys size slide line lined (E.take (n+1))=if ks.any (fun k=>keyEq k e.key) then ks else ks++[e.key]):=by show _=_;rw [HGs.out,hbe];simp
       clear HIs HGs HBe hbe
       go_upto_region 9 with fail
       go_cut [7] from 55 to 61 (fun s7 wx=>s7=.bool (is || keyEq e.key key)/\W2=wx)
       case first=>
        cases is with
        | true=>
          go_wp2_with fail
          go_meet
          exact ⟨rfl,rfl⟩
        | false=>
          cases hkb:keyEq e.key key with
          | true=>
            have HK:=hid hkb
            unfold keyEq at hkb
            go_wp2_with fail
            go_meet
            exact ⟨by rw [HK.out];rfl,rfl⟩
          | false=>
            have HK:=hid hkb
            unfold keyEq at hkb
            go_wp2_with fail
            go_meet
            exact ⟨by rw [HK.out];rfl,rfl⟩
       case rest=>
        obtain ⟨rfl,rfl⟩:=hcut
        obtain ⟨va,vc,hv6,-⟩:=HI2.out.row.slice
        rw [List.length_map] at hv6
        have hkl:ks.length<=n:=by
         have:=goKeys_len size slide line lined (E.take n)
         rw [HKs.out,List.length_take] at this;omega
        have HRow:=hid HI2.out.row
        subst hv6
        go_wp2_with fail
        go_loopw [11,12] (fun o c wx=>∃ (k m:Nat),k<=ks.length/\c=.int .i64 (k:Int)/\o=.bool ((ks.take k).any (fun x=>keyEq x e.key))/\wx=W2.drewN m) (fun _ c _=>ks.length - (intOf c).toNat)
        case atStart=>exact ⟨0,0,Nat.zero_le _,rfl,rfl,rfl⟩
        case round=>
         obtain ⟨k,m,hk,rfl,rfl,rfl⟩:=hrel
         by_cases hkl2:k < ks.length
         . have hy:ks[k]?=some ks[k]:=List.getElem?_eq_getElem hkl2
           have hany:(ks.take (k+1)).any (fun x=>keyEq x e.key)=((ks.take k).any (fun x=>keyEq x e.key) || keyEq ks[k] e.key):=by
            rw [List.take_succ_eq_append_getElem hkl2,List.any_append];simp
           generalize ks[k]=y at *
           obtain ⟨gv,ov,nv,cv,hv,hnv,-⟩:=HRow.out.shape (by intro e';have:=congrArg List.length e';simp at this;rw [this] at hkl2;simp at hkl2)
           simp only [Value.slice.injEq] at hv
           obtain ⟨rfl,rfl,rfl⟩:=hv
           have y0:W2.cell? ⟨gv,ov+k,none⟩=some (.string y):=by
            have:=HRow.out.cell k (by omega)
            rw [List.getElem?_map,hy] at this;simpa [strV] using this
           have hkk:(k:Int) < (ks.length:Int):=by omega
           have hwk:IntKind.i64.wrap ((k:Int)+1)=(k:Int)+1:=by rw [IntKind.wrap_i64];omega
           have HAny:=hid hany
           clear hany hy d0 d2 d3 d4
           generalize (ks.take k).any (fun x=>keyEq x e.key)=old at *
           cases old with
           | true=>
             go_upto_region 14 with fail
             go_quiet (fail)
             go_wp2
             go_roundw
             case rel=>exact ⟨k+1,m+nq,by omega,by go_num,by rw [HAny.out];rfl,by first | rfl | rw [World.drewN_drewN]⟩
             case measure=>simp [intOf];omega
           | false=>
             cases hkb:keyEq y e.key with
             | true=>
               have HK:=hid hkb
               unfold keyEq at hkb
               go_upto_region 14 with fail
               go_quiet (fail)
               go_wp2
               go_roundw
               case rel=>exact ⟨k+1,m+nq,by omega,by go_num,by rw [HAny.out,HK.out];rfl,by first | rfl | rw [World.drewN_drewN]⟩
               case measure=>simp [intOf];omega
             | false=>
               have HK:=hid hkb
               unfold keyEq at hkb
               go_upto_region 14 with fail
               go_quiet (fail)
               go_wp2
               go_roundw
               case rel=>exact ⟨k+1,m+nq,by omega,by go_num,by rw [HAny.out,HK.out];rfl,by first | rfl | rw [World.drewN_drewN]⟩
               case measure=>simp [intOf];omega
         . have hkE:k=ks.length:=by omega
           subst hkE
           have HR3:Hid (Row (W2.drewN m) 9 1 (.slice va ks.length vc) (ks.map strV)):=HRow.out.congr (fun k _=>by simp)
           have HB3:=hid (below_drewN HI2.out.below m)
           have d1':(W2.drewN m).cell? ⟨C,1,none⟩=some (.string e.key):=by simpa using d1
           have HBk:=hid HI2.out.blk
           have hB3s:=HB3.out.size
           clear d0 d1 d2 d3 d4
           generalize W2.drewN m=W3 at *
           have htk:ks.take ks.length=ks:=List.take_length
           rw [htk]
           cases hold:ks.any (fun x=>keyEq x e.key) with
           | true=>
             have HGs3:Hid (goKeys size slide line lined (E.take (n+1))=ks):=by show _=_;rw [HGs2.out,hold];rfl
             clear hold htk
             go_wp2_with fail
             go_roundw
             case rel=>exact ⟨n+1,by omega,by go_num,by rw [HIs2.out],by rw [HGs3.out];exact ⟨HR3.out,HBk.out,HB3.out⟩⟩
             case measure=>simp [intOf];omega
           | false=>
             have HGs3:Hid (goKeys size slide line lined (E.take (n+1))=ks++[e.key]):=by show _=_;rw [HGs2.out,hold];rfl
             clear hold htk
             go_wp2_with (at_builtin;go_must (refine wpList_append _ rfl _ _ _ _ rfl 9 i (.string ⟨#[]⟩) 1 16 Tryz.underlying233 hi hz0 hz1 hz2 rfl Nat.one_pos (.slice va ks.length vc) (ks.map strV) rfl (HR3.out.alloc _) (.slice (some ⟨W3.heap.size,0,none⟩) 1 1) 1 [.string e.key] rfl (str_src W3 e.key) Nat.one_pos ?h63 ?hby ?next))
             case h63=>simp only [maxLen,List.length_map];omega
             case hby=>simp only [List.length_map];omega
             intro v4 W4 ha
             have HI4:Hid (GoInv w W4 (ks++[e.key]) v4):=⟨by have:=ha.row;rw [List.map_append];exact this,ha.blk HBk.out (by simp;omega),HB3.out.trans (((Below.refl _ W3).alloc (by omega) _).trans (ha.below HBk.out (by simp;omega)))⟩
             clear ha
             go_wp2_with fail
             go_roundw
             case rel=>exact ⟨n+1,by omega,by go_num,by rw [HIs2.out],by rw [HGs3.out];exact HI4.out⟩
             case measure=>simp [intOf];omega
  . have hnE:n=E.length:=by omega
    subst hnE
    have hI2:=HI.out
    rw [List.take_length] at *
    have HF:=hid hI2
    obtain ⟨va,vc,hv6,-⟩:=hI2.row.slice
    rw [List.length_map] at hv6
    clear hI hI2 HI
    subst hv6
    go_wp2_with fail
    go_ret2
    exact ⟨rfl,HF.out.below⟩
end Go.Proofs.YtcfngdnmpogaoaaGreat
namespace Go.Proofs.YtcfngdnmpogaoaaGreat
open Go.RowKit
set_option maxHeartbeats 3200000
set_option maxRecDepth 20000
def RCells.addRange (r:RCells):RCells:={ r with n:={ r.n with range:=wrap64 (r.n.range+1) } }
theorem ritem_out (g n:Nat) (r:RCells) (E:List Ev) (e:Ev) (w:World) (h:REv w g r E) (hE:E.length<=200000) (hev:∀ x ∈ E,evOk x) (hc1:1<=r.slide) (hc2:r.slide<=r.size) (hc3:r.size<=1099511627776) (ho:outB e=true) :
 Calls Tryz.prog 81 #[.pointer (some ⟨g,0,none⟩),.int .i64 n,evItem e] w fun en w'=>en=.returned (.tuple #[])/\REv w' g r.addRange E/\Kept (fun k=>k=g) w w':=by
 unfold evItem itemV
 have H:=hid h
 have hglt:=h.rf.lt
 have hb0:Below w.heap.size w (w.alloc (.cells #[.int .i64 1,.string e.key,.int .i64 e.t,.int .i64 e.v,.int .u32 (e.tag:Int)] 28)):=(Below.refl _ w).alloc (Nat.le_refl _) _
 have hg:=going_any g r E e.key _ (h.below hb0) (by omega) hev hc1 hc2 hc3
 have hbx:=heap_alloc_new w (.cells #[.int .i64 1,.string e.key,.int .i64 e.t,.int .i64 e.v,.int .u32 (e.tag:Int)] 28)
 have hsz:w.heap.size < (w.alloc (.cells #[.int .i64 1,.string e.key,.int .i64 e.t,.int .i64 e.v,.int .u32 (e.tag:Int)] 28)).heap.size:=by simp
 clear h hev
 go_enter Tryz.func81,Tryz.ntmps81
 go_wp2_with fail
 refine hg.mono ?_
 rintro en W1 ⟨rfl,hB1⟩
 have hb1:=hb0.trans (hB1.mono (by omega))
 have hbx1:W1.heap[w.heap.size]?=some (.cells #[.int .i64 1,.string e.key,.int .i64 e.t,.int .i64 e.v,.int .u32 (e.tag:Int)] 28 (0,0)):=(hB1.block _ hsz).trans hbx
 have hrv:=H.out.below hb1
 have c50:=hrv.rf.tailAt 6 rfl
 have fz:=hrv.rf.frozen
 obtain ⟨d0,d1,d2,d3,d4⟩:=itemAt hbx1
 have hgE:r.events.ownBlock ≠ some g:=fun x=>(H.out.ev.cb x).ne (Cb.of H.out.rf.blk) (by decide) rfl
 have HFin:Hid (REv (W1.setCell ⟨g,50,none⟩ (.int .i64 (wrap64 (r.n.range+1)))) g r.addRange E/\Kept (fun k=>k=g) w (W1.setCell ⟨g,50,none⟩ (.int .i64 (wrap64 (r.n.range+1))))):=
  ⟨⟨hrv.rf.putTail 6 _ rfl rfl rfl,hrv.ev.setCell _ _ (fun hh=>hgE hh)⟩,(Kept.ofBelow hb1 (fun k=>k=g)).setCell ⟨g,50,none⟩ _ (fun _=>rfl)⟩
 generalize w.heap.size=B at *
 clear hb0 hbx hsz hg hB1 hb1 hbx1 hrv hgE
 unfold outB at ho
 generalize isGoF r.size r.slide r.line r.lined E e.key=is at *
 generalize ((goKeys r.size r.slide r.line r.lined E).length:Int)=many at *
 by_cases hlo:e.t < -2305843009213693952
 . clear ho
   go_wp2_with fail
   refine bodyPost_ret (results_none rfl _ _ _) rfl ?_
   exact ⟨rfl,HFin.out⟩
 . have hhi:2305843009213693952 < e.t:=by simp [hlo] at ho;exact ho
   clear ho
   go_wp2_with fail
   refine bodyPost_ret (results_none rfl _ _ _) rfl ?_
   exact ⟨rfl,HFin.out⟩
def RCells.addFull (r:RCells):RCells:={ r with n:={ r.n with full:=wrap64 (r.n.full+1) } }
theorem ritem_full (g n:Nat) (r:RCells) (E:List Ev) (e:Ev) (w:World) (h:REv w g r E) (hE:E.length<=200000) (hev:∀ x ∈ E,evOk x) (hc1:1<=r.slide) (hc2:r.slide<=r.size) (hc3:r.size<=1099511627776) (ho:outB e=false) (hl:(r.lined && decide (e.t < r.line))=false) (hi:isGoF r.size r.slide r.line r.lined E e.key=false) (hm:r.keys<=((goKeys r.size r.slide r.line r.lined E).length:Int)) :
 Calls Tryz.prog 81 #[.pointer (some ⟨g,0,none⟩),.int .i64 n,evItem e] w fun en w'=>en=.returned (.tuple #[])/\REv w' g r.addFull E/\Kept (fun k=>k=g) w w':=by
 unfold evItem itemV
 have H:=hid h
 have hglt:=h.rf.lt
 have hb0:Below w.heap.size w (w.alloc (.cells #[.int .i64 1,.string e.key,.int .i64 e.t,.int .i64 e.v,.int .u32 (e.tag:Int)] 28)):=(Below.refl _ w).alloc (Nat.le_refl _) _
 have hg:=going_any g r E e.key _ (h.below hb0) (by omega) hev hc1 hc2 hc3
 have hbx:=heap_alloc_new w (.cells #[.int .i64 1,.string e.key,.int .i64 e.t,.int .i64 e.v,.int .u32 (e.tag:Int)] 28)
 have hsz:w.heap.size < (w.alloc (.cells #[.int .i64 1,.string e.key,.int .i64 e.t,.int .i64 e.v,.int .u32 (e.tag:Int)] 28)).heap.size:=by simp
 clear h hev
 go_enter Tryz.func81,Tryz.ntmps81
 go_wp2_with fail
 refine hg.mono ?_
 rintro en W1 ⟨rfl,hB1⟩
 have hb1:=hb0.trans (hB1.mono (by omega))
 have hbx1:W1.heap[w.heap.size]?=some (.cells #[.int .i64 1,.string e.key,.int .i64 e.t,.int .i64 e.v,.int .u32 (e.tag:Int)] 28 (0,0)):=(hB1.block _ hsz).trans hbx
 have hrv:=H.out.below hb1
 have c51:=hrv.rf.tailAt 7 rfl
 have c45:=hrv.rf.tailAt 1 rfl
 have c46:=hrv.rf.tailAt 2 rfl
 have HRv:=hid hrv
 have HB1:=hid hb1
 have fz:=hrv.rf.frozen
 obtain ⟨d0,d1,d2,d3,d4⟩:=itemAt hbx1
 have hgE:r.events.ownBlock ≠ some g:=fun x=>(H.out.ev.cb x).ne (Cb.of H.out.rf.blk) (by decide) rfl
 have HFin:Hid (∀ W,REv W g r E->Kept (fun k=>k=g) w W->REv (W.setCell ⟨g,51,none⟩ (.int .i64 (wrap64 (r.n.full+1)))) g r.addFull E/\Kept (fun k=>k=g) w (W.setCell ⟨g,51,none⟩ (.int .i64 (wrap64 (r.n.full+1))))):=fun W hW kW=>
  ⟨⟨hW.rf.putTail 7 _ rfl rfl rfl,hW.ev.setCell _ _ (fun hh=>hgE hh)⟩,kW.setCell ⟨g,51,none⟩ _ (fun _=>rfl)⟩
 have HK1:Hid (Kept (fun k=>k=g) w W1):=Kept.ofBelow hb1 _
 clear HB1
 generalize w.heap.size=B at *
 clear hb0 hbx hsz hg hB1 hb1 hbx1 hrv hgE
 unfold outB at ho
 simp only [Bool.or_eq_false_iff,decide_eq_false_iff_not] at ho
 obtain ⟨hlo,hhi⟩:=ho
 rw [hi]
 clear hi
 generalize ((goKeys r.size r.slide r.line r.lined E).length:Int)=many at *
 go_upto_region 12 with fail
 go_cut [74] from 75 to 87 (fun s74 wx=>s74=.bool false/\REv wx g r E/\Kept (fun k=>k=g) w wx)
 case first=>
  have hR:Hid (∀ m,REv (W1.drewN m) g r E):=fun m=>HRv.out.below (below_drewN (Below.refl _ W1) m)
  obtain ⟨ln,hln⟩:∃ z,r.lined=z:=⟨_,rfl⟩
  rw [hln] at c45 hl
  clear hln
  cases ln with
  | false=>
    clear hl
    go_quiet (fail)
    go_wp2
    go_meet
    exact ⟨rfl,hR.out _,HK1.out.drewN _⟩
  | true=>
    have hnl:¬ e.t < r.line:=by simpa using hl
    clear hl
    go_quiet (fail)
    go_wp2
    go_meet
    exact ⟨rfl,hR.out _,HK1.out.drewN _⟩
 case rest=>
  obtain ⟨rfl,hR,hK⟩:=hcut
  have k3:=hR.rf.headAt 3 rfl
  have c51':=hR.rf.tailAt 7 rfl
  have fz':=hR.rf.frozen
  have HF2:=HFin.out wc hR hK
  have HF3:=hid HF2
  clear HF2 hR hK c45 c46 c51 d0 d1 d2 d3 d4 fz
  go_wp2_with fail
  refine bodyPost_ret (results_none rfl _ _ _) rfl ?_
  exact ⟨rfl,HF3.out⟩
end Go.Proofs.YtcfngdnmpogaoaaGreat
namespace Go.Proofs.YtcfngdnmpogaoaaGreat
open Go.RowKit
set_option maxHeartbeats 3200000
set_option maxRecDepth 20000
def RCells.addLate (r:RCells):RCells:={ r with n:={ r.n with late:=wrap64 (r.n.late+1) } }
def rRaise (x:Int) (s:RSrc):RSrc:=if s.reached=false\/s.reach < x then ⟨s.opened,s.broken,true,x,s.rest⟩ else s
theorem ritem_late_of (g n:Nat) (r:RCells) (s:RSrc) (E:List Ev) (e:Ev) (w:World) (h:REv w g r E) (hs:r.src[n]?=some s) (hE:E.length<=200000) (hev:∀ x ∈ E,evOk x) (hc1:1<=r.slide) (hc2:r.slide<=r.size) (hc3:r.size<=1099511627776) (hlt1:0<=r.late) (hlt2:r.late<=1099511627776) (ho:outB e=false) (hl:(r.lined && decide (e.t < r.line))=true) (Q:World->Prop)
 (hq:∀ W,REv W g (r.addLate.setSrc n (rRaise (e.t - r.late) s)) E->Kept (fun k=>k=g) w W->Calls Tryz.prog 80 #[.pointer (some ⟨g,0,none⟩)] W fun en w'=>en=.returned (.tuple #[])/\Q w') :
 Calls Tryz.prog 81 #[.pointer (some ⟨g,0,none⟩),.int .i64 n,evItem e] w fun en w'=>en=.returned (.tuple #[])/\Q w':=by
 unfold evItem itemV
 have H:=hid h
 have HQ:=hid hq
 have hglt:=h.rf.lt
 have hn8:n < 8:=by have:=(List.getElem?_eq_some_iff.1 hs).1;have:=h.rf.len;omega
 have hb0:Below w.heap.size w (w.alloc (.cells #[.int .i64 1,.string e.key,.int .i64 e.t,.int .i64 e.v,.int .u32 (e.tag:Int)] 28)):=(Below.refl _ w).alloc (Nat.le_refl _) _
 have hg:=going_any g r E e.key _ (h.below hb0) (by omega) hev hc1 hc2 hc3
 have hbx:=heap_alloc_new w (.cells #[.int .i64 1,.string e.key,.int .i64 e.t,.int .i64 e.v,.int .u32 (e.tag:Int)] 28)
 have hsz:w.heap.size < (w.alloc (.cells #[.int .i64 1,.string e.key,.int .i64 e.t,.int .i64 e.v,.int .u32 (e.tag:Int)] 28)).heap.size:=by simp
 clear h hev hq
 go_enter Tryz.func81,Tryz.ntmps81
 go_wp2_with fail
 refine hg.mono ?_
 rintro en W1 ⟨rfl,hB1⟩
 have hb1:Below w.heap.size w W1:=hb0.trans (hB1.mono (by omega))
 have hbx1:W1.heap[w.heap.size]?=some (.cells #[.int .i64 1,.string e.key,.int .i64 e.t,.int .i64 e.v,.int .u32 (e.tag:Int)] 28 (0,0)):=(hB1.block _ hsz).trans hbx
 have hrv:=H.out.below hb1
 have c45:W1.cell? ⟨g,45,none⟩=some (.bool r.lined):=hrv.rf.tailAt 1 rfl
 have c46:W1.cell? ⟨g,46,none⟩=some (.int .i64 r.line):=hrv.rf.tailAt 2 rfl
 have HRv:=hid hrv
 have HIT:=hid hbx1
 obtain ⟨d0,d1,d2,d3,d4⟩:=itemAt hbx1
 have HgE:Hid (r.events.ownBlock ≠ some g):=fun x=>(H.out.ev.cb x).ne (Cb.of H.out.rf.blk) (by decide) rfl
 have HK1:Hid (Kept (fun k=>k=g) w W1):=Kept.ofBelow hb1 _
 have hBg:w.heap.size ≠ g:=by omega
 obtain ⟨B,HB⟩:∃ B,Hid (w.heap.size=B):=⟨_,rfl⟩
 rw [HB.out] at HIT d0 d1 d2 d3 d4 hBg ⊢
 clear hb0 hbx hsz hg hB1 hb1 hbx1 hrv
 unfold outB at ho
 simp only [Bool.or_eq_false_iff,decide_eq_false_iff_not] at ho
 obtain ⟨hlo,hhi⟩:=ho
 simp only [Bool.and_eq_true,decide_eq_true_eq] at hl
 obtain ⟨hl1,hl2⟩:=hl
 rw [hl1] at c45
 generalize isGoF r.size r.slide r.line r.lined E e.key=is at *
 generalize ((goKeys r.size r.slide r.line r.lined E).length:Int)=many at *
 clear hl1
 go_upto_region 12 with fail
 go_quiet (fail)
 have HR2:Hid (REv (W1.drewN nq) g r E):=HRv.out.below (below_drewN (Below.refl _ W1) _)
 have HK2:Hid (Kept (fun k=>k=g) w (W1.drewN nq)):=HK1.out.drewN _
 have HIT2:Hid ((W1.drewN nq).heap[B]?=some (.cells #[.int .i64 1,.string e.key,.int .i64 e.t,.int .i64 e.v,.int .u32 (e.tag:Int)] 28 (0,0))):=by show _=_;simpa using HIT.out
 clear c45 c46 d0 d1 d2 d3 d4 HRv HK1 HIT
 generalize W1.drewN nq=W2 at *
 have c49:W2.cell? ⟨g,49,none⟩=some (.int .i64 r.n.late):=HR2.out.rf.tailAt 5 rfl
 have fz:∀ j,W2.frozen? ⟨g,j,none⟩=false:=HR2.out.rf.frozen
 go_upto_region 17 with fail
 have HR3:Hid (REv (W2.setCell ⟨g,49,none⟩ (.int .i64 (wrap64 (r.n.late+1)))) g r.addLate E):=⟨HR2.out.rf.putTail 5 _ rfl rfl rfl,HR2.out.ev.setCell _ _ (fun hh=>HgE.out hh)⟩
 have HK3:Hid (Kept (fun k=>k=g) w (W2.setCell ⟨g,49,none⟩ (.int .i64 (wrap64 (r.n.late+1))))):=HK2.out.setCell ⟨g,49,none⟩ _ (fun _=>rfl)
 have HIT3:Hid ((W2.setCell ⟨g,49,none⟩ (.int .i64 (wrap64 (r.n.late+1)))).heap[B]?=some (.cells #[.int .i64 1,.string e.key,.int .i64 e.t,.int .i64 e.v,.int .u32 (e.tag:Int)] 28 (0,0))):=by
  show _=_
  rw [heap_setCell_other _ _ _ _ (by simpa using hBg)];exact HIT2.out
 generalize W2.setCell ⟨g,49,none⟩ (.int .i64 (wrap64 (r.n.late+1)))=W3 at *
 clear c49 fz HR2 HK2 HIT2
 have hsA:r.addLate.src[n]?=some s:=hs
 have q2:W3.cell? ⟨g,4+n*5+2,none⟩=some (.bool s.reached):=HR3.out.rf.cell (r.addLate.srcAt n 2 s hsA (by omega))
 have q3:W3.cell? ⟨g,4+n*5+3,none⟩=some (.int .i64 s.reach):=HR3.out.rf.cell (r.addLate.srcAt n 3 s hsA (by omega))
 have l3:W3.cell? ⟨g,2,none⟩=some (.int .i64 r.late):=HR3.out.rf.headAt 2 rfl
 obtain ⟨d0,d1,d2,d3,d4⟩:=itemAt HIT3.out
 have hwr:IntKind.i64.wrap (e.t - r.late)=e.t - r.late:=by rw [IntKind.wrap_i64];omega
 by_cases hno:s.reached=true/\¬ s.reach < e.t - r.late
 . obtain ⟨h1,h2⟩:=hno
   have HRr:Hid (rRaise (e.t - r.late) s=s):=by show _=_;rw [rRaise,if_neg];rintro (hh | hh);(rw [h1] at hh;cases hh);exact h2 hh
   rw [h1] at q2
   go_quiet (fail)
   have HR4:Hid (REv (W3.drewN nq) g (r.addLate.setSrc n (rRaise (e.t - r.late) s)) E):=by
    have:=HR3.out.below (below_drewN (Below.refl _ W3) nq)
    have hself:r.addLate.setSrc n s=r.addLate:=by
     have:r.addLate.src.set n s=r.addLate.src:=List.ext_getElem? (fun i=>by
      rw [List.getElem?_set]
      split
      . rename_i hh;subst hh
        split
        . exact hsA.symm
        . rename_i h3;exact absurd (List.getElem?_eq_some_iff.1 hsA).1 h3
      . rfl)
     rw [RCells.setSrc,this]
    rw [HRr.out,hself];exact this
   have HK4:=hid (HK3.out.drewN nq)
   clear q2 q3 l3 d0 d1 d2 d3 d4
   generalize W3.drewN nq=W4 at *
   go_wp2_with fail
   refine (HQ.out W4 HR4.out HK4.out).mono ?_
   rintro en W5 ⟨rfl,hq5⟩
   have HQ5:=hid hq5
   clear hq5
   go_wp2_with fail
   go_end0
   exact ⟨rfl,HQ5.out⟩
 . have hyes:s.reached=false\/s.reach < e.t - r.late:=by
    cases hr:s.reached with
    | false=>exact .inl rfl
    | true=>right;exact Classical.byContradiction (fun hh=>hno ⟨hr,hh⟩)
   have HRr:Hid (rRaise (e.t - r.late) s=⟨s.opened,s.broken,true,e.t - r.late,s.rest⟩):=by show _=_;rw [rRaise,if_pos hyes]
   clear hno
   go_cut [142] from 123 to 142 (fun s142 wx=>s142=.bool true/\∃ m,wx=W3.drewN m)
   case first=>
    obtain ⟨re,hre⟩:∃ z,s.reached=z:=⟨_,rfl⟩
    rw [hre] at q2 hyes
    clear hre
    cases re with
    | false=>
      clear hyes
      go_quiet (fail)
      go_wp2
      go_meet
      exact ⟨rfl,_,rfl⟩
    | true=>
      have h2:s.reach < e.t - r.late:=by rcases hyes with hh | hh;cases hh;exact hh
      clear hyes
      go_quiet (fail)
      go_wp2
      go_meet
      exact ⟨rfl,_,rfl⟩
   case rest=>
    obtain ⟨rfl,m,rfl⟩:=hcut
    have HR4:Hid (REv (W3.drewN m) g r.addLate E):=HR3.out.below (below_drewN (Below.refl _ W3) m)
    have HK4:=hid (HK3.out.drewN m)
    have HIT4:Hid ((W3.drewN m).heap[B]?=some (.cells #[.int .i64 1,.string e.key,.int .i64 e.t,.int .i64 e.v,.int .u32 (e.tag:Int)] 28 (0,0))):=by show _=_;simpa using HIT3.out
    clear q2 q3 l3 d0 d1 d2 d3 d4
    generalize W3.drewN m=W4 at *
    have q2:W4.cell? ⟨g,4+n*5+2,none⟩=some (.bool s.reached):=HR4.out.rf.cell (r.addLate.srcAt n 2 s hsA (by omega))
    have fz:∀ j,W4.frozen? ⟨g,j,none⟩=false:=HR4.out.rf.frozen
    go_upto_region 19 with fail
    have hs5:(r.addLate.setSrc n ⟨s.opened,s.broken,true,s.reach,s.rest⟩).src[n]?=some ⟨s.opened,s.broken,true,s.reach,s.rest⟩:=r.addLate.setSrc_at n _ (List.getElem?_eq_some_iff.1 hsA).1
    have HR5:Hid (REv (W4.setCell ⟨g,4+n*5+2,none⟩ (.bool true)).drew g (r.addLate.setSrc n ⟨s.opened,s.broken,true,s.reach,s.rest⟩) E):=by
     have h1:REv (W4.setCell ⟨g,4+n*5+2,none⟩ (.bool true)) g (r.addLate.setSrc n ⟨s.opened,s.broken,true,s.reach,s.rest⟩) E:=⟨HR4.out.rf.putSrc n 2 s _ _ hsA (by omega) rfl,HR4.out.ev.setCell _ _ (fun hh=>HgE.out hh)⟩
     exact ⟨h1.rf.congr rfl,h1.ev.congr (fun _ _=>rfl)⟩
    have HK5:Hid (Kept (fun k=>k=g) w (W4.setCell ⟨g,4+n*5+2,none⟩ (.bool true)).drew):=(HK4.out.setCell ⟨g,_,none⟩ _ (fun _=>rfl)).drew
    have HIT5:Hid ((W4.setCell ⟨g,4+n*5+2,none⟩ (.bool true)).drew.heap[B]?=some (.cells #[.int .i64 1,.string e.key,.int .i64 e.t,.int .i64 e.v,.int .u32 (e.tag:Int)] 28 (0,0))):=by
     show (W4.setCell ⟨g,4+n*5+2,none⟩ (.bool true)).heap[B]?=_
     rw [heap_setCell_other _ _ _ _ (by simpa using hBg)];exact HIT4.out
    refine wp_region_still_tail 11 (by kernel_rfl) (by kernel_rfl) ?_
    simp only [List.take_succ_cons,List.take_zero,List.drop_succ_cons,List.drop_zero]
    change wpStill Tryz.prog _ (W4.setCell ⟨g,4+n*5+2,none⟩ (.bool true)).drew (fun a'=>wpList Tryz.prog _ _ _ a' (W4.setCell ⟨g,4+n*5+2,none⟩ (.bool true)).drew) _ _
    clear q2 fz HR4 HK4 HIT4
    generalize (W4.setCell ⟨g,4+n*5+2,none⟩ (.bool true)).drew=W5 at *
    have q3:W5.cell? ⟨g,4+n*5+3,none⟩=some (.int .i64 s.reach):=HR5.out.rf.cell (RCells.srcAt _ n 3 ⟨s.opened,s.broken,true,s.reach,s.rest⟩ hs5 (by omega))
    have l3:W5.cell? ⟨g,2,none⟩=some (.int .i64 r.late):=HR5.out.rf.headAt 2 rfl
    have fz:∀ j,W5.frozen? ⟨g,j,none⟩=false:=HR5.out.rf.frozen
    obtain ⟨d0,d1,d2,d3,d4⟩:=itemAt HIT5.out
    repeat still_step
    refine wpStill_nil ?_
    have HR6:Hid (REv (W5.setCell ⟨g,4+n*5+3,none⟩ (.int .i64 (e.t - r.late))) g (r.addLate.setSrc n (rRaise (e.t - r.late) s)) E):=by
     have h1:=HR5.out.rf.putSrc n 3 _ ⟨s.opened,s.broken,true,e.t - r.late,s.rest⟩ (.int .i64 (e.t - r.late)) hs5 (by omega) rfl
     rw [RCells.setSrc_setSrc] at h1
     rw [HRr.out]
     exact ⟨h1,HR5.out.ev.setCell _ _ (fun hh=>HgE.out hh)⟩
    have HK6:Hid (Kept (fun k=>k=g) w (W5.setCell ⟨g,4+n*5+3,none⟩ (.int .i64 (e.t - r.late)))):=HK5.out.setCell ⟨g,_,none⟩ _ (fun _=>rfl)
    go_wp2_with fail
    generalize W5.setCell ⟨g,4+n*5+3,none⟩ (.int .i64 (e.t - r.late))=W6 at *
    refine (HQ.out W6 HR6.out HK6.out).mono ?_
    rintro en W7 ⟨rfl,hq5⟩
    have HQ5:=hid hq5
    clear hq5 q3 l3 fz d0 d1 d2 d3 d4
    go_wp2_with fail
    go_end0
    exact ⟨rfl,HQ5.out⟩
end Go.Proofs.YtcfngdnmpogaoaaGreat
