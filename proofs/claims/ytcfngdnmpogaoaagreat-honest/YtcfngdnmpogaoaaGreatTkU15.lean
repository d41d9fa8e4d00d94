import Derived.Test.YtcfngdnmpogaoaaGreatTkU13
namespace Go.Proofs.YtcfngdnmpogaoaaGreat
open Go.RowKit
variable {B:Nat} {w:World} {xs:List WinX}
set_option maxHeartbeats 6400000
set_option maxRecDepth 20000
theorem WinsAt.cellAt {g off len cap:Nat} (h:WinsAt w (.slice (some ⟨g,off,none⟩) len cap) xs B) {n:Nat} {x:WinX} (hn:xs[n]?=some x) (k:Nat) (hk:k < 7):w.cell? ⟨g,off+n*7+k,none⟩=(wxCells x)[k]?:=by
 have hnl:n < xs.length:=(List.getElem?_eq_some_iff.1 hn).1
 rcases h.row with ⟨h1,h2⟩ | ⟨ge,o,m,c,cur,h1,hg,h3,h4,h5,h6,h7⟩
 . cases h1
 . simp only [Value.slice.injEq,Option.some.injEq,Addr.mk.injEq] at h1
   obtain ⟨⟨rfl,rfl,-⟩,rfl,rfl⟩:=h1
   have hlen:=winFlat_len xs
   rw [hlen] at h6
   rw [<- winFlat xs n k x hn hk,<- h7 (n*7+k) (by omega)]
   simp [World.cell?,hg,Nat.add_assoc]
theorem WinsAt.ones {v:Value} (h:WinsAt w v xs B):∀ x ∈ xs,x.tv.oneCell'=true:=fun x hx=>by
 obtain ⟨a,c,e,-⟩:=(h.tags x hx).1.slice
 rw [e];rfl
theorem WinsAt.src {g off len cap:Nat} (h:WinsAt w (.slice (some ⟨g,off,none⟩) len cap) xs B) (a m c:Nat) (ham:a+m<=xs.length) :
 Src Tryz.prog 7 54 (.slice (some ⟨g,off+a*7,none⟩) m c) m (((xs.drop a).take m).flatMap wxCells) w:=by
 refine Src.ofSlice _ Tryz.underlying54 ⟨g,off+a*7,none⟩ m c _ ?_ (fun j u hu=>?_) (win_one _ (fun x hx=>h.ones x (List.mem_of_mem_drop (List.mem_of_mem_take hx))))
 . rw [winFlat_len,List.length_take,List.length_drop];omega
 . have hj:j < (((xs.drop a).take m).flatMap wxCells).length:=(List.getElem?_eq_some_iff.1 hu).1
   rw [winFlat_len,List.length_take,List.length_drop] at hj
   have hq:j / 7 < m:=by omega
   have hx:((xs.drop a).take m)[j / 7]?=some (xs[a+j / 7]'(by omega)):=by
    rw [List.getElem?_take,if_pos hq,List.getElem?_drop];exact List.getElem?_eq_getElem _
   have h1:=winFlat _ (j / 7) (j % 7) _ hx (by omega)
   rw [show j / 7*7+j % 7=j from by omega,hu] at h1
   have h2:=h.cellAt (n:=a+j / 7) (List.getElem?_eq_getElem (by omega)) (j % 7) (by omega)
   rw [Addr.add_lit,show off+a*7+j=off+(a+j / 7)*7+j % 7 from by omega,h2,h1]
def PlAt (key:ByteArray) (s:Int) (ws:List Win) (n:Nat):Prop:=n<=ws.length/\∀ (i:Nat) x,i < n->ws[i]?=some x->befW key s x=true
theorem place_b5 {W1 W2 W3 W4 W5:World} {v3 v5:Value} {n1 n2:List Value} (hB1:Below w.heap.size w W1) (hB2:Below W1.heap.size W1 W2) (ha3:App W2 W3 70 7 (.slice none 0 0) v3 [] n1) (hB4:Below W3.heap.size W3 W4) (ha5:App W4 W5 70 7 v3 v5 ([]++n1) n2):Below w.heap.size w W5:=by
 have s1:=hB1.size
 have b2:Below w.heap.size w W2:=hB1.trans (hB2.mono s1)
 have hn0:∀ k,(Value.slice none 0 0).ownBlock=some k->w.heap.size<=k:=fun k hk=>by simp [Value.ownBlock] at hk
 have b3:Below w.heap.size W2 W3:=ha3.below hn0 b2.size
 have k3:=ha3.blk hn0 b2.size
 have b4:Below w.heap.size W3 W4:=hB4.mono (by have:=b3.size;have:=b2.size;omega)
 have hs4:w.heap.size<=W4.heap.size:=(b2.trans (b3.trans b4)).size
 exact b2.trans (b3.trans (b4.trans (ha5.below k3 hs4)))
theorem place_fin {W1 W2 W3 W4 W5 W6:World} {v v3 v5 v6 tv:Value} {n:Nat} {nw:Win} {n1 n2 n3:List Value} (hV:WinsAt w v xs B) (hB:B<=w.heap.size) (hr1:Row W1 26 1 tv (nw.tags.map tagV)) (hb1:∀ k,tv.ownBlock=some k->w.heap.size<=k) (hB1:Below w.heap.size w W1)
 (hB2:Below W1.heap.size W1 W2) (ha3:App W2 W3 70 7 (.slice none 0 0) v3 [] n1) (hB4:Below W3.heap.size W3 W4) (ha5:App W4 W5 70 7 v3 v5 ([]++n1) n2) (ha6:App W5 W6 70 7 v5 v6 (([]++n1)++n2) n3)
 (hrow:(([]++n1)++n2)++n3=(xs.take n++⟨nw,tv⟩ :: xs.drop n).flatMap wxCells):WinsAt W6 v6 (xs.take n++⟨nw,tv⟩ :: xs.drop n) B/\Below w.heap.size w W6:=by
 have s1:=hB1.size
 have s2:=hB2.size
 have s4:=hB4.size
 have b2:Below w.heap.size w W2:=hB1.trans (hB2.mono s1)
 have hn0:∀ k,(Value.slice none 0 0).ownBlock=some k->w.heap.size<=k:=fun k hk=>by simp [Value.ownBlock] at hk
 have b3:Below w.heap.size W2 W3:=ha3.below hn0 b2.size
 have k3:=ha3.blk hn0 b2.size
 have b4:Below w.heap.size W3 W4:=hB4.mono (by have:=b3.size;have:=b2.size;omega)
 have hs4:w.heap.size<=W4.heap.size:=(b2.trans (b3.trans b4)).size
 have b5:Below w.heap.size W4 W5:=ha5.below k3 hs4
 have k5:=ha5.blk k3 hs4
 have hs5:w.heap.size<=W5.heap.size:=(b2.trans (b3.trans (b4.trans b5))).size
 have b6:Below w.heap.size W5 W6:=ha6.below k5 hs5
 have k6:=ha6.blk k5 hs5
 have ball:Below w.heap.size w W6:=b2.trans (b3.trans (b4.trans (b5.trans b6)))
 have r2:Row W2 26 1 tv (nw.tags.map tagV):=hr1.below hB2 (fun k hk=>(hr1.blk_lt hk).1)
 have r3:Row W3 26 1 tv (nw.tags.map tagV):=r2.kept (Kept.ofGrown ha3.grown) (fun k hk e=>by simp [Value.ownBlock] at e)
 have r4:Row W4 26 1 tv (nw.tags.map tagV):=r3.below hB4 (fun k hk=>(r3.blk_lt hk).1)
 have q4:Row W4 70 7 v3 ([]++n1):=ha3.row.below hB4 (fun k hk=>(ha3.row.blk_lt hk).1)
 have r5:Row W5 26 1 tv (nw.tags.map tagV):=r4.kept (Kept.ofGrown ha5.grown) (fun k hk e=>r4.apart q4 (by decide) hk e)
 have r6:Row W6 26 1 tv (nw.tags.map tagV):=r5.kept (Kept.ofGrown ha6.grown) (fun k hk e=>r5.apart ha5.row (by decide) hk e)
 refine ⟨⟨by rw [<- hrow];exact ha6.row,fun x hx=>?_,fun k hk=>Nat.le_trans hB (k6 k hk),fun e=>by simp at e⟩,ball⟩
 simp only [List.mem_append,List.mem_cons] at hx
 have hold:x ∈ xs->Row W6 26 1 x.tv (x.w.tags.map tagV)/\∀ k,x.tv.ownBlock=some k->B<=k:=fun hx=>⟨(hV.tags x hx).1.below ball (fun k hk=>((hV.tags x hx).1.blk_lt hk).1),(hV.tags x hx).2⟩
 rcases hx with hx | rfl | hx
 . exact hold (List.mem_of_mem_take hx)
 . exact ⟨r6,fun k hk=>Nat.le_trans hB (hb1 k hk)⟩
 . exact hold (List.mem_of_mem_drop hx)
theorem place_any (g:Nat) (r:RCells) (E:List Ev) (key:ByteArray) (s:Int) (v:Value) (xs:List WinX) (B:Nat) (w:World) (h:REv w g r E) (hv:WinsAt w v xs B) (hB:B<=w.heap.size) (hE:E.length<=100000000) (hxl:xs.length<=1000000000) (hs:-4611686018427387904<=s/\s<=4611686018427387904) (hz:1<=r.size/\r.size<=1099511627776) :
 Calls Tryz.prog 116 #[.pointer (some ⟨g,0,none⟩),v,.string key,.int .i64 s] w fun e w'=>∃ v' xs',e=.returned v'/\WinsAt w' v' xs' B/\xs'.map WinX.w=placeF key s (winF key s r.size E) (xs.map WinX.w)/\Below w.heap.size w w':=by
 obtain ⟨i,hi,hz0,hz1,hz2⟩:=info_parts info133
 have H:=hid h
 have HV:=hid hv
 obtain ⟨nw,HNW⟩:∃ nw,Hid (winF key s r.size E=nw):=⟨_,rfl⟩
 have HW:Calls Tryz.prog 144 #[.pointer (some ⟨g,0,none⟩),.string key,.int .i64 s] w fun e w'=>∃ tv,e=.returned (.agg #[.string nw.key,.int .i64 nw.start,.int .i64 nw.cnt,.int .i64 nw.sum,.int .i64 nw.lo,.int .i64 nw.hi,tv])/\Row w' 26 1 tv (nw.tags.map tagV)/\(∀ k,tv.ownBlock=some k->w.heap.size<=k)/\Below w.heap.size w w':=by
  have:=window_any g r E key s w h hE hs hz
  rw [HNW.out] at this
  exact this
 obtain ⟨va,vc,hvv⟩:∃ a c,v=.slice a xs.length c:=by
  rcases hv.row with ⟨h1,h2⟩ | ⟨ge,off,n,cap,cur,h1,_,_,_,_,h6,_⟩
  . have:=congrArg List.length h2
    rw [winFlat_len,List.length_nil] at this
    exact ⟨none,0,by rw [h1,show xs.length=0 from by omega]⟩
  . rw [winFlat_len] at h6
    exact ⟨_,cap,by rw [h1,show n=xs.length from by omega]⟩
 subst hvv
 have hml:(xs.map WinX.w).length=xs.length:=by simp
 clear h hv
 go_enter Tryz.func116,Tryz.ntmps116
 go_wp2_with fail
 go_loopw [9] (fun c wx=>∃ (n:Nat),c=.int .i64 (n:Int)/\PlAt key s (xs.map WinX.w) n/\w=wx) (fun c _=>xs.length - (intOf c).toNat)
 case atStart=>exact ⟨0,rfl,⟨Nat.zero_le _,fun i x hi=>by omega⟩,rfl⟩
 case round=>
  obtain ⟨n,rfl,hp,rfl⟩:=hrel
  have hn:=hp.1
  rw [hml] at hn
  have HP:=hid hp
  clear hp
  by_cases hlt:n < xs.length
  . have hx:xs[n]?=some xs[n]:=List.getElem?_eq_getElem hlt
    generalize xs[n]=x at *
    have hxm:(xs.map WinX.w)[n]?=some x.w:=by rw [List.getElem?_map,hx];rfl
    obtain ⟨gv,ov,cv,hv,hgl,hcl,k0,k1⟩:=HV.out.at hx
    simp only [Value.slice.injEq] at hv
    obtain ⟨rfl,-,rfl⟩:=hv
    have hnl:(n:Int) < (xs.length:Int):=by omega
    have hwn:IntKind.i64.wrap ((n:Int)+1)=(n:Int)+1:=by rw [IntKind.wrap_i64];omega
    cases hb:befW key s x.w with
    | true=>
      have HN:Hid (PlAt key s (xs.map WinX.w) (n+1)):=⟨by rw [hml];omega,fun i y hi hy=>by
       by_cases hin:i < n
       . exact HP.out.2 i y hin hy
       . have:i=n:=by omega
         subst this
         rw [hxm] at hy;cases hy;exact hb⟩
      unfold befW at hb
      by_cases h1:x.w.start < s
      . clear hb
        go_wp2_with fail
        go_roundw
        case rel=>exact ⟨n+1,by go_num,HN.out,trivial⟩
        case measure=>simp [intOf];omega
      . have hb2:x.w.start=s/\Op.bytesLess x.w.key.toList key.toList=true:=by simpa [h1] using hb
        obtain ⟨h2,h3⟩:=hb2
        clear hb
        go_wp2_with fail
        go_roundw
        case rel=>exact ⟨n+1,by go_num,HN.out,trivial⟩
        case measure=>simp [intOf];omega
    | false=>
      have HAt:Hid (atW key s (xs.map WinX.w)=n):=atW_eq key s _ n (by rw [hml];omega) HP.out.2 (fun y hy=>by rw [hxm] at hy;cases hy;exact hb)
      unfold befW at hb
      have hcn:(n:Int)<=(vc:Int):=by omega
      have hnc:n < vc:=by omega
      by_cases h2:x.w.start=s
      . have h1:¬ x.w.start < s:=by omega
        have h3:Op.bytesLess x.w.key.toList key.toList=false:=by simpa [h2] using hb
        clear hb
        cases hkb:keyEq x.w.key key with
        | true=>
          have HIs:Hid (isAt key s (xs.map WinX.w)=true):=by
           show _=_
           rw [isAt,HAt.out,hxm];simp [sameW,h2,hkb]
          unfold keyEq at hkb
          go_wp2_with fail
          go_ret
          first | refine ⟨_,xs,rfl,HV.out,?_,Below.refl _ _⟩ | refine ⟨_,rfl,xs,HV.out,?_,Below.refl _ _⟩
          rw [placeF,HIs.out];rfl
        | false=>
          have HIs:Hid (isAt key s (xs.map WinX.w)=false):=by
           show _=_
           rw [isAt,HAt.out,hxm];simp [sameW,h2,hkb]
          unfold keyEq at hkb
          go_wp2_with fail
          refine HW.mono ?_
          rintro en W1 ⟨tv,rfl,hr1,hb1,hB1⟩
          obtain ⟨ta,tc,htv,-⟩:=hr1.slice
          rw [List.length_map] at htv
          subst htv
          have HR1:=hid hr1
          have HB1:=hid hb1
          have HBl1:=hid hB1
          have HB2:Hid (Below W1.heap.size W1 (W1.alloc (.cells #[.string nw.key,.int .i64 nw.start,.int .i64 nw.cnt,.int .i64 nw.sum,.int .i64 nw.lo,.int .i64 nw.hi,.slice ta nw.tags.length tc] 70))):=(Below.refl _ W1).alloc (Nat.le_refl _) _
          have hbx:=heap_alloc_new W1 (.cells #[.string nw.key,.int .i64 nw.start,.int .i64 nw.cnt,.int .i64 nw.sum,.int .i64 nw.lo,.int .i64 nw.hi,.slice ta nw.tags.length tc] 70)
          have hV2:WinsAt (W1.alloc (.cells #[.string nw.key,.int .i64 nw.start,.int .i64 nw.cnt,.int .i64 nw.sum,.int .i64 nw.lo,.int .i64 nw.hi,.slice ta nw.tags.length tc] 70)) (.slice (some ⟨gv,ov,none⟩) xs.length vc) xs B:=(HV.out.below (hB1)).below HB2.out
          have hDl:W1.heap.size < (W1.alloc (.cells #[.string nw.key,.int .i64 nw.start,.int .i64 nw.cnt,.int .i64 nw.sum,.int .i64 nw.lo,.int .i64 nw.hi,.slice ta nw.tags.length tc] 70)).heap.size:=by simp
          obtain ⟨D,HD⟩:∃ D,Hid (W1.heap.size=D):=⟨_,rfl⟩
          rw [HD.out] at hbx hDl
          clear hr1 hb1 hB1 k0 k1
          go_upto_region 8 with fail
          rw [HD.out]
          generalize W1.alloc (.cells #[.string nw.key,.int .i64 nw.start,.int .i64 nw.cnt,.int .i64 nw.sum,.int .i64 nw.lo,.int .i64 nw.hi,.slice ta nw.tags.length tc] 70)=W2 at *
          have SA:=(by have:=hV2.src 0 n vc (by omega);simpa using this:Src Tryz.prog 7 54 (.slice (some ⟨gv,ov,none⟩) n vc) n ((xs.take n).flatMap wxCells) W2)
          go_wp2_with (at_builtin;go_must (refine wpList_append_any _ rfl _ _ _ _ rfl 70 i (.agg #[.string ⟨#[]⟩,.int .i64 0,.int .i64 0,.int .i64 0,.int .i64 0,.int .i64 0,.slice none 0 0]) 7 80 Tryz.underlying54 hi hz0 hz1 hz2 rfl (by decide) (.slice none 0 0) [] rfl (Row.nil _ _ _) (.slice (some ⟨gv,ov,none⟩) n vc) n ((xs.take n).flatMap wxCells) rfl SA ?h63aB ?hbyaB ?nextaB))
          case h63aB=>simp only [maxLen,List.length_nil];omega
          case hbyaB=>simp only [List.length_nil];omega
          intro v3 W3 ha3 hn3
          have b3:Below W2.heap.size W2 W3:=ha3.below (fun k hk=>by simp [Value.ownBlock] at hk) (Nat.le_refl _)
          have hV3:WinsAt W3 (.slice (some ⟨gv,ov,none⟩) xs.length vc) xs B:=hV2.below b3
          have hbx3:W3.heap[D]?=some (.cells #[.string nw.key,.int .i64 nw.start,.int .i64 nw.cnt,.int .i64 nw.sum,.int .i64 nw.lo,.int .i64 nw.hi,.slice ta nw.tags.length tc] 70 (0,0)):=(b3.block D hDl).trans hbx
          obtain ⟨y0,y1,y2,y3,y4,y5,y6,yf⟩:=cells7At hbx3
          have HA3:=hid ha3
          have hr3:=ha3.row
          have hl3:(([]:List Value)++((xs.take n).flatMap wxCells)).length=7*(n):=by rw [List.nil_append];have:=winFlat_len (xs.take n);(try simp only [List.length_take] at this);omega
          have HV3:=hid hV3
          clear ha3 hn3 SA hV2 hV3 hbx hbx3 b3
          go_wp2_with (at_builtin;go_must (refine wpList_append _ rfl _ _ _ _ rfl 70 i (.agg #[.string ⟨#[]⟩,.int .i64 0,.int .i64 0,.int .i64 0,.int .i64 0,.int .i64 0,.slice none 0 0]) 7 80 Tryz.underlying54 hi hz0 hz1 hz2 rfl (by decide) v3 ([]++((xs.take n).flatMap wxCells)) rfl (hr3.alloc _) (.slice (some ⟨W3.heap.size,0,none⟩) 1 1) 1 [.string nw.key,.int .i64 nw.start,.int .i64 nw.cnt,.int .i64 nw.sum,.int .i64 nw.lo,.int .i64 nw.hi,.slice ta nw.tags.length tc] rfl (Src.ofSlice _ Tryz.underlying54 ⟨W3.heap.size,0,none⟩ 1 1 _ rfl (many_new W3 _ _) (by simp [Value.oneCell'])) Nat.one_pos ?h63bB ?hbybB ?nextbB))
          case h63bB=>rw [hl3];simp only [maxLen];omega
          case hbybB=>rw [hl3];omega
          intro v5 W5 ha5
          have HA5:=hid ha5
          have hr5:=ha5.row
          have hl5:((([]:List Value)++((xs.take n).flatMap wxCells))++([.string nw.key,.int .i64 nw.start,.int .i64 nw.cnt,.int .i64 nw.sum,.int .i64 nw.lo,.int .i64 nw.hi,.slice ta nw.tags.length tc]:List Value)).length=7*(n)+7:=by rw [List.length_append,hl3];rfl
          have hb5:Below w.heap.size w W5:=place_b5 HBl1.out HB2.out HA3.out ((Below.refl _ W3).alloc (Nat.le_refl _) _) ha5
          have hV5:WinsAt W5 (.slice (some ⟨gv,ov,none⟩) xs.length vc) xs B:=HV.out.below hb5
          clear ha5 hr3 hb5 y0 y1 y2 y3 y4 y5 y6 yf
          have SC:=(by have:=hV5.src n (xs.length - n) (vc - n) (by omega);rwa [List.take_of_length_le (by simp)] at this:Src Tryz.prog 7 54 (.slice (some ⟨gv,ov+n*7,none⟩) (xs.length - n) (vc - n)) (xs.length - n) ((xs.drop n).flatMap wxCells) W5)
          go_wp2_with (at_builtin;go_must (refine wpList_append_any _ rfl _ _ _ _ rfl 70 i (.agg #[.string ⟨#[]⟩,.int .i64 0,.int .i64 0,.int .i64 0,.int .i64 0,.int .i64 0,.slice none 0 0]) 7 80 Tryz.underlying54 hi hz0 hz1 hz2 rfl (by decide) v5 (([]++((xs.take n).flatMap wxCells))++[.string nw.key,.int .i64 nw.start,.int .i64 nw.cnt,.int .i64 nw.sum,.int .i64 nw.lo,.int .i64 nw.hi,.slice ta nw.tags.length tc]) rfl hr5 (.slice (some ⟨gv,ov+n*7,none⟩) (xs.length - n) (vc - n)) (xs.length - n) ((xs.drop n).flatMap wxCells) rfl SC ?h63cB ?hbycB ?nextcB))
          case h63cB=>rw [hl5];simp only [maxLen];omega
          case hbycB=>rw [hl5];omega
          intro v6 W6 ha6 hn6
          have hfin:=place_fin (xs:=xs) (n:=n) HV.out hB HR1.out HB1.out HBl1.out HB2.out HA3.out ((Below.refl _ W3).alloc (Nat.le_refl _) _) HA5.out ha6 (by rw [List.nil_append,List.flatMap_append,List.flatMap_cons,List.append_assoc];rfl)
          have HFin:=hid hfin
          clear ha6 hn6 hfin SC hV5 hr5
          go_wp2_with fail
          go_ret
          refine ⟨_,_,rfl,HFin.out.1,?_,HFin.out.2⟩
          rw [HNW.out,placeF,HIs.out]
          simp only [Bool.false_eq_true,if_false]
          rw [HAt.out,List.map_append,List.map_cons,List.map_take,List.map_drop]
      . have h1:¬ x.w.start < s:=by simp [h2] at hb;omega
        have HIs:Hid (isAt key s (xs.map WinX.w)=false):=by
         show _=_
         rw [isAt,HAt.out,hxm];simp [sameW,h2]
        clear hb
        go_wp2_with fail
        refine HW.mono ?_
        rintro en W1 ⟨tv,rfl,hr1,hb1,hB1⟩
        obtain ⟨ta,tc,htv,-⟩:=hr1.slice
        rw [List.length_map] at htv
        subst htv
        have HR1:=hid hr1
        have HB1:=hid hb1
        have HBl1:=hid hB1
        have HB2:Hid (Below W1.heap.size W1 (W1.alloc (.cells #[.string nw.key,.int .i64 nw.start,.int .i64 nw.cnt,.int .i64 nw.sum,.int .i64 nw.lo,.int .i64 nw.hi,.slice ta nw.tags.length tc] 70))):=(Below.refl _ W1).alloc (Nat.le_refl _) _
        have hbx:=heap_alloc_new W1 (.cells #[.string nw.key,.int .i64 nw.start,.int .i64 nw.cnt,.int .i64 nw.sum,.int .i64 nw.lo,.int .i64 nw.hi,.slice ta nw.tags.length tc] 70)
        have hV2:WinsAt (W1.alloc (.cells #[.string nw.key,.int .i64 nw.start,.int .i64 nw.cnt,.int .i64 nw.sum,.int .i64 nw.lo,.int .i64 nw.hi,.slice ta nw.tags.length tc] 70)) (.slice (some ⟨gv,ov,none⟩) xs.length vc) xs B:=(HV.out.below (hB1)).below HB2.out
        have hDl:W1.heap.size < (W1.alloc (.cells #[.string nw.key,.int .i64 nw.start,.int .i64 nw.cnt,.int .i64 nw.sum,.int .i64 nw.lo,.int .i64 nw.hi,.slice ta nw.tags.length tc] 70)).heap.size:=by simp
        obtain ⟨D,HD⟩:∃ D,Hid (W1.heap.size=D):=⟨_,rfl⟩
        rw [HD.out] at hbx hDl
        clear hr1 hb1 hB1 k0 k1
        go_upto_region 8 with fail
        rw [HD.out]
        generalize W1.alloc (.cells #[.string nw.key,.int .i64 nw.start,.int .i64 nw.cnt,.int .i64 nw.sum,.int .i64 nw.lo,.int .i64 nw.hi,.slice ta nw.tags.length tc] 70)=W2 at *
        have SA:=(by have:=hV2.src 0 n vc (by omega);simpa using this:Src Tryz.prog 7 54 (.slice (some ⟨gv,ov,none⟩) n vc) n ((xs.take n).flatMap wxCells) W2)
        go_wp2_with (at_builtin;go_must (refine wpList_append_any _ rfl _ _ _ _ rfl 70 i (.agg #[.string ⟨#[]⟩,.int .i64 0,.int .i64 0,.int .i64 0,.int .i64 0,.int .i64 0,.slice none 0 0]) 7 80 Tryz.underlying54 hi hz0 hz1 hz2 rfl (by decide) (.slice none 0 0) [] rfl (Row.nil _ _ _) (.slice (some ⟨gv,ov,none⟩) n vc) n ((xs.take n).flatMap wxCells) rfl SA ?h63aA ?hbyaA ?nextaA))
        case h63aA=>simp only [maxLen,List.length_nil];omega
        case hbyaA=>simp only [List.length_nil];omega
        intro v3 W3 ha3 hn3
        have b3:Below W2.heap.size W2 W3:=ha3.below (fun k hk=>by simp [Value.ownBlock] at hk) (Nat.le_refl _)
        have hV3:WinsAt W3 (.slice (some ⟨gv,ov,none⟩) xs.length vc) xs B:=hV2.below b3
        have hbx3:W3.heap[D]?=some (.cells #[.string nw.key,.int .i64 nw.start,.int .i64 nw.cnt,.int .i64 nw.sum,.int .i64 nw.lo,.int .i64 nw.hi,.slice ta nw.tags.length tc] 70 (0,0)):=(b3.block D hDl).trans hbx
        obtain ⟨y0,y1,y2,y3,y4,y5,y6,yf⟩:=cells7At hbx3
        have HA3:=hid ha3
        have hr3:=ha3.row
        have hl3:(([]:List Value)++((xs.take n).flatMap wxCells)).length=7*(n):=by rw [List.nil_append];have:=winFlat_len (xs.take n);(try simp only [List.length_take] at this);omega
        have HV3:=hid hV3
        clear ha3 hn3 SA hV2 hV3 hbx hbx3 b3
        go_wp2_with (at_builtin;go_must (refine wpList_append _ rfl _ _ _ _ rfl 70 i (.agg #[.string ⟨#[]⟩,.int .i64 0,.int .i64 0,.int .i64 0,.int .i64 0,.int .i64 0,.slice none 0 0]) 7 80 Tryz.underlying54 hi hz0 hz1 hz2 rfl (by decide) v3 ([]++((xs.take n).flatMap wxCells)) rfl (hr3.alloc _) (.slice (some ⟨W3.heap.size,0,none⟩) 1 1) 1 [.string nw.key,.int .i64 nw.start,.int .i64 nw.cnt,.int .i64 nw.sum,.int .i64 nw.lo,.int .i64 nw.hi,.slice ta nw.tags.length tc] rfl (Src.ofSlice _ Tryz.underlying54 ⟨W3.heap.size,0,none⟩ 1 1 _ rfl (many_new W3 _ _) (by simp [Value.oneCell'])) Nat.one_pos ?h63bA ?hbybA ?nextbA))
        case h63bA=>rw [hl3];simp only [maxLen];omega
        case hbybA=>rw [hl3];omega
        intro v5 W5 ha5
        have HA5:=hid ha5
        have hr5:=ha5.row
        have hl5:((([]:List Value)++((xs.take n).flatMap wxCells))++([.string nw.key,.int .i64 nw.start,.int .i64 nw.cnt,.int .i64 nw.sum,.int .i64 nw.lo,.int .i64 nw.hi,.slice ta nw.tags.length tc]:List Value)).length=7*(n)+7:=by rw [List.length_append,hl3];rfl
        have hb5:Below w.heap.size w W5:=place_b5 HBl1.out HB2.out HA3.out ((Below.refl _ W3).alloc (Nat.le_refl _) _) ha5
        have hV5:WinsAt W5 (.slice (some ⟨gv,ov,none⟩) xs.length vc) xs B:=HV.out.below hb5
        clear ha5 hr3 hb5 y0 y1 y2 y3 y4 y5 y6 yf
        have SC:=(by have:=hV5.src n (xs.length - n) (vc - n) (by omega);rwa [List.take_of_length_le (by simp)] at this:Src Tryz.prog 7 54 (.slice (some ⟨gv,ov+n*7,none⟩) (xs.length - n) (vc - n)) (xs.length - n) ((xs.drop n).flatMap wxCells) W5)
        go_wp2_with (at_builtin;go_must (refine wpList_append_any _ rfl _ _ _ _ rfl 70 i (.agg #[.string ⟨#[]⟩,.int .i64 0,.int .i64 0,.int .i64 0,.int .i64 0,.int .i64 0,.slice none 0 0]) 7 80 Tryz.underlying54 hi hz0 hz1 hz2 rfl (by decide) v5 (([]++((xs.take n).flatMap wxCells))++[.string nw.key,.int .i64 nw.start,.int .i64 nw.cnt,.int .i64 nw.sum,.int .i64 nw.lo,.int .i64 nw.hi,.slice ta nw.tags.length tc]) rfl hr5 (.slice (some ⟨gv,ov+n*7,none⟩) (xs.length - n) (vc - n)) (xs.length - n) ((xs.drop n).flatMap wxCells) rfl SC ?h63cA ?hbycA ?nextcA))
        case h63cA=>rw [hl5];simp only [maxLen];omega
        case hbycA=>rw [hl5];omega
        intro v6 W6 ha6 hn6
        have hfin:=place_fin (xs:=xs) (n:=n) HV.out hB HR1.out HB1.out HBl1.out HB2.out HA3.out ((Below.refl _ W3).alloc (Nat.le_refl _) _) HA5.out ha6 (by rw [List.nil_append,List.flatMap_append,List.flatMap_cons,List.append_assoc];rfl)
        have HFin:=hid hfin
        clear ha6 hn6 hfin SC hV5 hr5
        go_wp2_with fail
        go_ret
        refine ⟨_,_,rfl,HFin.out.1,?_,HFin.out.2⟩
        rw [HNW.out,placeF,HIs.out]
        simp only [Bool.false_eq_true,if_false]
        rw [HAt.out,List.map_append,List.map_cons,List.map_take,List.map_drop]
  . have hnE:n=xs.length:=by omega
    have HNE:=hid hnE
    have hnone:(xs.map WinX.w)[n]?=none:=List.getElem?_eq_none (by rw [hml];omega)
    have HAt:Hid (atW key s (xs.map WinX.w)=n):=atW_eq key s _ n (by rw [hml];omega) HP.out.2 (fun y hy=>by rw [hnone] at hy;cases hy)
    have HIs:Hid (isAt key s (xs.map WinX.w)=false):=by
     show _=_
     rw [isAt,HAt.out,hnone]
    clear hnone
    rcases hvr:HV.out.row with ⟨h1,h2⟩ | ⟨ge,off,m,cap,cur,h1,hg,h3,h4,h5,h6,h7⟩
    . simp only [Value.slice.injEq] at h1
      obtain ⟨rfl,hx0,rfl⟩:=h1
      have hxs:xs=[]:=List.eq_nil_of_length_eq_zero hx0
      subst hxs
      simp only [List.length_nil] at *
      subst hnE
      go_wp2_with fail
      refine HW.mono ?_
      rintro en W1 ⟨tv,rfl,hr1,hb1,hB1⟩
      obtain ⟨ta,tc,htv,-⟩:=hr1.slice
      rw [List.length_map] at htv
      subst htv
      have HR1:=hid hr1
      have HB1:=hid hb1
      have HBl1:=hid hB1
      have HB2:Hid (Below W1.heap.size W1 (W1.alloc (.cells #[.string nw.key,.int .i64 nw.start,.int .i64 nw.cnt,.int .i64 nw.sum,.int .i64 nw.lo,.int .i64 nw.hi,.slice ta nw.tags.length tc] 70))):=(Below.refl _ W1).alloc (Nat.le_refl _) _
      have hbx:=heap_alloc_new W1 (.cells #[.string nw.key,.int .i64 nw.start,.int .i64 nw.cnt,.int .i64 nw.sum,.int .i64 nw.lo,.int .i64 nw.hi,.slice ta nw.tags.length tc] 70)
      have hV2:WinsAt (W1.alloc (.cells #[.string nw.key,.int .i64 nw.start,.int .i64 nw.cnt,.int .i64 nw.sum,.int .i64 nw.lo,.int .i64 nw.hi,.slice ta nw.tags.length tc] 70)) (.slice none 0 0) [] B:=(HV.out.below (hB1)).below HB2.out
      have hDl:W1.heap.size < (W1.alloc (.cells #[.string nw.key,.int .i64 nw.start,.int .i64 nw.cnt,.int .i64 nw.sum,.int .i64 nw.lo,.int .i64 nw.hi,.slice ta nw.tags.length tc] 70)).heap.size:=by simp
      obtain ⟨D,HD⟩:∃ D,Hid (W1.heap.size=D):=⟨_,rfl⟩
      rw [HD.out] at hbx hDl
      clear hr1 hb1 hB1 h2 hvr
      go_upto_region 8 with fail
      rw [HD.out]
      generalize W1.alloc (.cells #[.string nw.key,.int .i64 nw.start,.int .i64 nw.cnt,.int .i64 nw.sum,.int .i64 nw.lo,.int .i64 nw.hi,.slice ta nw.tags.length tc] 70)=W2 at *
      have SA:=(Src.ofNil _ Tryz.underlying54 0:Src Tryz.prog 7 54 (.slice none 0 0) 0 [] W2)
      go_wp2_with (at_builtin;go_must (refine wpList_append_any _ rfl _ _ _ _ rfl 70 i (.agg #[.string ⟨#[]⟩,.int .i64 0,.int .i64 0,.int .i64 0,.int .i64 0,.int .i64 0,.slice none 0 0]) 7 80 Tryz.underlying54 hi hz0 hz1 hz2 rfl (by decide) (.slice none 0 0) [] rfl (Row.nil _ _ _) (.slice none 0 0) 0 [] rfl SA ?h63aC ?hbyaC ?nextaC))
      case h63aC=>simp only [maxLen,List.length_nil];omega
      case hbyaC=>simp only [List.length_nil];omega
      intro v3 W3 ha3 hn3
      have b3:Below W2.heap.size W2 W3:=ha3.below (fun k hk=>by simp [Value.ownBlock] at hk) (Nat.le_refl _)
      have hV3:WinsAt W3 (.slice none 0 0) [] B:=hV2.below b3
      have hbx3:W3.heap[D]?=some (.cells #[.string nw.key,.int .i64 nw.start,.int .i64 nw.cnt,.int .i64 nw.sum,.int .i64 nw.lo,.int .i64 nw.hi,.slice ta nw.tags.length tc] 70 (0,0)):=(b3.block D hDl).trans hbx
      obtain ⟨y0,y1,y2,y3,y4,y5,y6,yf⟩:=cells7At hbx3
      have HA3:=hid ha3
      have hr3:=ha3.row
      have hl3:(([]:List Value)++[]).length=7*(0):=by rfl
      have HV3:=hid hV3
      clear ha3 hn3 SA hV2 hV3 hbx hbx3 b3
      go_wp2_with (at_builtin;go_must (refine wpList_append _ rfl _ _ _ _ rfl 70 i (.agg #[.string ⟨#[]⟩,.int .i64 0,.int .i64 0,.int .i64 0,.int .i64 0,.int .i64 0,.slice none 0 0]) 7 80 Tryz.underlying54 hi hz0 hz1 hz2 rfl (by decide) v3 ([]++[]) rfl (hr3.alloc _) (.slice (some ⟨W3.heap.size,0,none⟩) 1 1) 1 [.string nw.key,.int .i64 nw.start,.int .i64 nw.cnt,.int .i64 nw.sum,.int .i64 nw.lo,.int .i64 nw.hi,.slice ta nw.tags.length tc] rfl (Src.ofSlice _ Tryz.underlying54 ⟨W3.heap.size,0,none⟩ 1 1 _ rfl (many_new W3 _ _) (by simp [Value.oneCell'])) Nat.one_pos ?h63bC ?hbybC ?nextbC))
      case h63bC=>rw [hl3];simp only [maxLen];omega
      case hbybC=>rw [hl3];omega
      intro v5 W5 ha5
      have HA5:=hid ha5
      have hr5:=ha5.row
      have hl5:((([]:List Value)++[])++([.string nw.key,.int .i64 nw.start,.int .i64 nw.cnt,.int .i64 nw.sum,.int .i64 nw.lo,.int .i64 nw.hi,.slice ta nw.tags.length tc]:List Value)).length=7*(0)+7:=by rw [List.length_append,hl3];rfl
      have hb5:Below w.heap.size w W5:=place_b5 HBl1.out HB2.out HA3.out ((Below.refl _ W3).alloc (Nat.le_refl _) _) ha5
      have hV5:WinsAt W5 (.slice none 0 0) [] B:=HV.out.below hb5
      clear ha5 hr3 hb5 y0 y1 y2 y3 y4 y5 y6 yf
      have SC:=(Src.ofNil _ Tryz.underlying54 0:Src Tryz.prog 7 54 (.slice none 0 0) 0 [] W5)
      go_wp2_with (at_builtin;go_must (refine wpList_append_any _ rfl _ _ _ _ rfl 70 i (.agg #[.string ⟨#[]⟩,.int .i64 0,.int .i64 0,.int .i64 0,.int .i64 0,.int .i64 0,.slice none 0 0]) 7 80 Tryz.underlying54 hi hz0 hz1 hz2 rfl (by decide) v5 (([]++[])++[.string nw.key,.int .i64 nw.start,.int .i64 nw.cnt,.int .i64 nw.sum,.int .i64 nw.lo,.int .i64 nw.hi,.slice ta nw.tags.length tc]) rfl hr5 (.slice none 0 0) (0) ([]) rfl SC ?h63cC ?hbycC ?nextcC))
      case h63cC=>rw [hl5];simp only [maxLen];omega
      case hbycC=>rw [hl5];omega
      intro v6 W6 ha6 hn6
      have hfin:=place_fin (xs:=[]) (n:=0) HV.out hB HR1.out HB1.out HBl1.out HB2.out HA3.out ((Below.refl _ W3).alloc (Nat.le_refl _) _) HA5.out ha6 (by rfl)
      have HFin:=hid hfin
      clear ha6 hn6 hfin SC hV5 hr5
      go_wp2_with fail
      go_ret
      refine ⟨_,_,rfl,HFin.out.1,?_,HFin.out.2⟩
      rw [HNW.out,placeF,HIs.out]
      simp only [Bool.false_eq_true,if_false]
      rw [HAt.out,List.map_append,List.map_cons,List.map_take,List.map_drop]
    . simp only [Value.slice.injEq] at h1
      obtain ⟨rfl,-,rfl⟩:=h1
      have hmx:m=xs.length:=by rw [winFlat_len] at h6;omega
      subst hmx
      clear hvr hg h4 h5 h6 h7
      subst hnE
      have hcn:(xs.length:Int)<=(vc:Int):=by omega
      by_cases hnc:xs.length < vc
      . have hnc':¬ vc=xs.length:=by omega
        go_wp2_with fail
        refine HW.mono ?_
        rintro en W1 ⟨tv,rfl,hr1,hb1,hB1⟩
        obtain ⟨ta,tc,htv,-⟩:=hr1.slice
        rw [List.length_map] at htv
        subst htv
        have HR1:=hid hr1
        have HB1:=hid hb1
        have HBl1:=hid hB1
        have HB2:Hid (Below W1.heap.size W1 (W1.alloc (.cells #[.string nw.key,.int .i64 nw.start,.int .i64 nw.cnt,.int .i64 nw.sum,.int .i64 nw.lo,.int .i64 nw.hi,.slice ta nw.tags.length tc] 70))):=(Below.refl _ W1).alloc (Nat.le_refl _) _
        have hbx:=heap_alloc_new W1 (.cells #[.string nw.key,.int .i64 nw.start,.int .i64 nw.cnt,.int .i64 nw.sum,.int .i64 nw.lo,.int .i64 nw.hi,.slice ta nw.tags.length tc] 70)
        have hV2:WinsAt (W1.alloc (.cells #[.string nw.key,.int .i64 nw.start,.int .i64 nw.cnt,.int .i64 nw.sum,.int .i64 nw.lo,.int .i64 nw.hi,.slice ta nw.tags.length tc] 70)) (.slice (some ⟨ge,off,none⟩) xs.length vc) xs B:=(HV.out.below (hB1)).below HB2.out
        have hDl:W1.heap.size < (W1.alloc (.cells #[.string nw.key,.int .i64 nw.start,.int .i64 nw.cnt,.int .i64 nw.sum,.int .i64 nw.lo,.int .i64 nw.hi,.slice ta nw.tags.length tc] 70)).heap.size:=by simp
        obtain ⟨D,HD⟩:∃ D,Hid (W1.heap.size=D):=⟨_,rfl⟩
        rw [HD.out] at hbx hDl
        clear hr1 hb1 hB1 h3
        go_upto_region 8 with fail
        rw [HD.out]
        generalize W1.alloc (.cells #[.string nw.key,.int .i64 nw.start,.int .i64 nw.cnt,.int .i64 nw.sum,.int .i64 nw.lo,.int .i64 nw.hi,.slice ta nw.tags.length tc] 70)=W2 at *
        have SA:=(by have:=hV2.src 0 xs.length vc (by omega);simpa using this:Src Tryz.prog 7 54 (.slice (some ⟨ge,off,none⟩) xs.length vc) xs.length (xs.flatMap wxCells) W2)
        go_wp2_with (at_builtin;go_must (refine wpList_append_any _ rfl _ _ _ _ rfl 70 i (.agg #[.string ⟨#[]⟩,.int .i64 0,.int .i64 0,.int .i64 0,.int .i64 0,.int .i64 0,.slice none 0 0]) 7 80 Tryz.underlying54 hi hz0 hz1 hz2 rfl (by decide) (.slice none 0 0) [] rfl (Row.nil _ _ _) (.slice (some ⟨ge,off,none⟩) xs.length vc) xs.length (xs.flatMap wxCells) rfl SA ?h63aD ?hbyaD ?nextaD))
        case h63aD=>simp only [maxLen,List.length_nil];omega
        case hbyaD=>simp only [List.length_nil];omega
        intro v3 W3 ha3 hn3
        have b3:Below W2.heap.size W2 W3:=ha3.below (fun k hk=>by simp [Value.ownBlock] at hk) (Nat.le_refl _)
        have hV3:WinsAt W3 (.slice (some ⟨ge,off,none⟩) xs.length vc) xs B:=hV2.below b3
        have hbx3:W3.heap[D]?=some (.cells #[.string nw.key,.int .i64 nw.start,.int .i64 nw.cnt,.int .i64 nw.sum,.int .i64 nw.lo,.int .i64 nw.hi,.slice ta nw.tags.length tc] 70 (0,0)):=(b3.block D hDl).trans hbx
        obtain ⟨y0,y1,y2,y3,y4,y5,y6,yf⟩:=cells7At hbx3
        have HA3:=hid ha3
        have hr3:=ha3.row
        have hl3:(([]:List Value)++(xs.flatMap wxCells)).length=7*(xs.length):=by rw [List.nil_append];have:=winFlat_len (xs);(try simp only [List.length_take] at this);omega
        have HV3:=hid hV3
        clear ha3 hn3 SA hV2 hV3 hbx hbx3 b3
        go_wp2_with (at_builtin;go_must (refine wpList_append _ rfl _ _ _ _ rfl 70 i (.agg #[.string ⟨#[]⟩,.int .i64 0,.int .i64 0,.int .i64 0,.int .i64 0,.int .i64 0,.slice none 0 0]) 7 80 Tryz.underlying54 hi hz0 hz1 hz2 rfl (by decide) v3 ([]++(xs.flatMap wxCells)) rfl (hr3.alloc _) (.slice (some ⟨W3.heap.size,0,none⟩) 1 1) 1 [.string nw.key,.int .i64 nw.start,.int .i64 nw.cnt,.int .i64 nw.sum,.int .i64 nw.lo,.int .i64 nw.hi,.slice ta nw.tags.length tc] rfl (Src.ofSlice _ Tryz.underlying54 ⟨W3.heap.size,0,none⟩ 1 1 _ rfl (many_new W3 _ _) (by simp [Value.oneCell'])) Nat.one_pos ?h63bD ?hbybD ?nextbD))
        case h63bD=>rw [hl3];simp only [maxLen];omega
        case hbybD=>rw [hl3];omega
        intro v5 W5 ha5
        have HA5:=hid ha5
        have hr5:=ha5.row
        have hl5:((([]:List Value)++(xs.flatMap wxCells))++([.string nw.key,.int .i64 nw.start,.int .i64 nw.cnt,.int .i64 nw.sum,.int .i64 nw.lo,.int .i64 nw.hi,.slice ta nw.tags.length tc]:List Value)).length=7*(xs.length)+7:=by rw [List.length_append,hl3];rfl
        have hb5:Below w.heap.size w W5:=place_b5 HBl1.out HB2.out HA3.out ((Below.refl _ W3).alloc (Nat.le_refl _) _) ha5
        have hV5:WinsAt W5 (.slice (some ⟨ge,off,none⟩) xs.length vc) xs B:=HV.out.below hb5
        clear ha5 hr3 hb5 y0 y1 y2 y3 y4 y5 y6 yf
        have SC:=(Src.ofSlice _ Tryz.underlying54 ⟨ge,off+xs.length*7,none⟩ 0 (vc - xs.length) [] rfl (fun j u hu=>by simp at hu) (fun u hu=>by simp at hu):Src Tryz.prog 7 54 (.slice (some ⟨ge,off+xs.length*7,none⟩) 0 (vc - xs.length)) 0 [] W5)
        go_wp2_with (at_builtin;go_must (refine wpList_append_any _ rfl _ _ _ _ rfl 70 i (.agg #[.string ⟨#[]⟩,.int .i64 0,.int .i64 0,.int .i64 0,.int .i64 0,.int .i64 0,.slice none 0 0]) 7 80 Tryz.underlying54 hi hz0 hz1 hz2 rfl (by decide) v5 (([]++(xs.flatMap wxCells))++[.string nw.key,.int .i64 nw.start,.int .i64 nw.cnt,.int .i64 nw.sum,.int .i64 nw.lo,.int .i64 nw.hi,.slice ta nw.tags.length tc]) rfl hr5 (.slice (some ⟨ge,off+xs.length*7,none⟩) 0 (vc - xs.length)) (0) ([]) rfl SC ?h63cD ?hbycD ?nextcD))
        case h63cD=>rw [hl5];simp only [maxLen];omega
        case hbycD=>rw [hl5];omega
        intro v6 W6 ha6 hn6
        have hfin:=place_fin (xs:=xs) (n:=xs.length) HV.out hB HR1.out HB1.out HBl1.out HB2.out HA3.out ((Below.refl _ W3).alloc (Nat.le_refl _) _) HA5.out ha6 (by rw [List.nil_append,List.flatMap_append,List.flatMap_cons,List.append_nil,List.drop_length,List.take_length];rfl)
        have HFin:=hid hfin
        clear ha6 hn6 hfin SC hV5 hr5
        go_wp2_with fail
        go_ret
        refine ⟨_,_,rfl,HFin.out.1,?_,HFin.out.2⟩
        rw [HNW.out,placeF,HIs.out]
        simp only [Bool.false_eq_true,if_false]
        rw [HAt.out,List.map_append,List.map_cons,List.map_take,List.map_drop]
      . have hnc':vc=xs.length:=by omega
        subst hnc'
        go_wp2_with fail
        refine HW.mono ?_
        rintro en W1 ⟨tv,rfl,hr1,hb1,hB1⟩
        obtain ⟨ta,tc,htv,-⟩:=hr1.slice
        rw [List.length_map] at htv
        subst htv
        have HR1:=hid hr1
        have HB1:=hid hb1
        have HBl1:=hid hB1
        have HB2:Hid (Below W1.heap.size W1 (W1.alloc (.cells #[.string nw.key,.int .i64 nw.start,.int .i64 nw.cnt,.int .i64 nw.sum,.int .i64 nw.lo,.int .i64 nw.hi,.slice ta nw.tags.length tc] 70))):=(Below.refl _ W1).alloc (Nat.le_refl _) _
        have hbx:=heap_alloc_new W1 (.cells #[.string nw.key,.int .i64 nw.start,.int .i64 nw.cnt,.int .i64 nw.sum,.int .i64 nw.lo,.int .i64 nw.hi,.slice ta nw.tags.length tc] 70)
        have hV2:WinsAt (W1.alloc (.cells #[.string nw.key,.int .i64 nw.start,.int .i64 nw.cnt,.int .i64 nw.sum,.int .i64 nw.lo,.int .i64 nw.hi,.slice ta nw.tags.length tc] 70)) (.slice (some ⟨ge,off,none⟩) xs.length xs.length) xs B:=(HV.out.below (hB1)).below HB2.out
        have hDl:W1.heap.size < (W1.alloc (.cells #[.string nw.key,.int .i64 nw.start,.int .i64 nw.cnt,.int .i64 nw.sum,.int .i64 nw.lo,.int .i64 nw.hi,.slice ta nw.tags.length tc] 70)).heap.size:=by simp
        obtain ⟨D,HD⟩:∃ D,Hid (W1.heap.size=D):=⟨_,rfl⟩
        rw [HD.out] at hbx hDl
        clear hr1 hb1 hB1 h3
        go_upto_region 8 with fail
        rw [HD.out]
        generalize W1.alloc (.cells #[.string nw.key,.int .i64 nw.start,.int .i64 nw.cnt,.int .i64 nw.sum,.int .i64 nw.lo,.int .i64 nw.hi,.slice ta nw.tags.length tc] 70)=W2 at *
        have SA:=(by have:=hV2.src 0 xs.length xs.length (by omega);simpa using this:Src Tryz.prog 7 54 (.slice (some ⟨ge,off,none⟩) xs.length xs.length) xs.length (xs.flatMap wxCells) W2)
        go_wp2_with (at_builtin;go_must (refine wpList_append_any _ rfl _ _ _ _ rfl 70 i (.agg #[.string ⟨#[]⟩,.int .i64 0,.int .i64 0,.int .i64 0,.int .i64 0,.int .i64 0,.slice none 0 0]) 7 80 Tryz.underlying54 hi hz0 hz1 hz2 rfl (by decide) (.slice none 0 0) [] rfl (Row.nil _ _ _) (.slice (some ⟨ge,off,none⟩) xs.length xs.length) xs.length (xs.flatMap wxCells) rfl SA ?h63aE ?hbyaE ?nextaE))
        case h63aE=>simp only [maxLen,List.length_nil];omega
        case hbyaE=>simp only [List.length_nil];omega
        intro v3 W3 ha3 hn3
        have b3:Below W2.heap.size W2 W3:=ha3.below (fun k hk=>by simp [Value.ownBlock] at hk) (Nat.le_refl _)
        have hV3:WinsAt W3 (.slice (some ⟨ge,off,none⟩) xs.length xs.length) xs B:=hV2.below b3
        have hbx3:W3.heap[D]?=some (.cells #[.string nw.key,.int .i64 nw.start,.int .i64 nw.cnt,.int .i64 nw.sum,.int .i64 nw.lo,.int .i64 nw.hi,.slice ta nw.tags.length tc] 70 (0,0)):=(b3.block D hDl).trans hbx
        obtain ⟨y0,y1,y2,y3,y4,y5,y6,yf⟩:=cells7At hbx3
        have HA3:=hid ha3
        have hr3:=ha3.row
        have hl3:(([]:List Value)++(xs.flatMap wxCells)).length=7*(xs.length):=by rw [List.nil_append];have:=winFlat_len (xs);(try simp only [List.length_take] at this);omega
        have HV3:=hid hV3
        clear ha3 hn3 SA hV2 hV3 hbx hbx3 b3
        go_wp2_with (at_builtin;go_must (refine wpList_append _ rfl _ _ _ _ rfl 70 i (.agg #[.string ⟨#[]⟩,.int .i64 0,.int .i64 0,.int .i64 0,.int .i64 0,.int .i64 0,.slice none 0 0]) 7 80 Tryz.underlying54 hi hz0 hz1 hz2 rfl (by decide) v3 ([]++(xs.flatMap wxCells)) rfl (hr3.alloc _) (.slice (some ⟨W3.heap.size,0,none⟩) 1 1) 1 [.string nw.key,.int .i64 nw.start,.int .i64 nw.cnt,.int .i64 nw.sum,.int .i64 nw.lo,.int .i64 nw.hi,.slice ta nw.tags.length tc] rfl (Src.ofSlice _ Tryz.underlying54 ⟨W3.heap.size,0,none⟩ 1 1 _ rfl (many_new W3 _ _) (by simp [Value.oneCell'])) Nat.one_pos ?h63bE ?hbybE ?nextbE))
        case h63bE=>rw [hl3];simp only [maxLen];omega
        case hbybE=>rw [hl3];omega
        intro v5 W5 ha5
        have HA5:=hid ha5
        have hr5:=ha5.row
        have hl5:((([]:List Value)++(xs.flatMap wxCells))++([.string nw.key,.int .i64 nw.start,.int .i64 nw.cnt,.int .i64 nw.sum,.int .i64 nw.lo,.int .i64 nw.hi,.slice ta nw.tags.length tc]:List Value)).length=7*(xs.length)+7:=by rw [List.length_append,hl3];rfl
        have hb5:Below w.heap.size w W5:=place_b5 HBl1.out HB2.out HA3.out ((Below.refl _ W3).alloc (Nat.le_refl _) _) ha5
        have hV5:WinsAt W5 (.slice (some ⟨ge,off,none⟩) xs.length xs.length) xs B:=HV.out.below hb5
        clear ha5 hr3 hb5 y0 y1 y2 y3 y4 y5 y6 yf
        have SC:=(Src.ofSlice _ Tryz.underlying54 ⟨ge,off,none⟩ 0 0 [] rfl (fun j u hu=>by simp at hu) (fun u hu=>by simp at hu):Src Tryz.prog 7 54 (.slice (some ⟨ge,off,none⟩) 0 0) 0 [] W5)
        go_wp2_with (at_builtin;go_must (refine wpList_append_any _ rfl _ _ _ _ rfl 70 i (.agg #[.string ⟨#[]⟩,.int .i64 0,.int .i64 0,.int .i64 0,.int .i64 0,.int .i64 0,.slice none 0 0]) 7 80 Tryz.underlying54 hi hz0 hz1 hz2 rfl (by decide) v5 (([]++(xs.flatMap wxCells))++[.string nw.key,.int .i64 nw.start,.int .i64 nw.cnt,.int .i64 nw.sum,.int .i64 nw.lo,.int .i64 nw.hi,.slice ta nw.tags.length tc]) rfl hr5 (.slice (some ⟨ge,off,none⟩) 0 0) (0) ([]) rfl SC ?h63cE ?hbycE ?nextcE))
        case h63cE=>rw [hl5];simp only [maxLen];omega
        case hbycE=>rw [hl5];omega
        intro v6 W6 ha6 hn6
        have hfin:=place_fin (xs:=xs) (n:=xs.length) HV.out hB HR1.out HB1.out HBl1.out HB2.out HA3.out ((Below.refl _ W3).alloc (Nat.le_refl _) _) HA5.out ha6 (by rw [List.nil_append,List.flatMap_append,List.flatMap_cons,List.append_nil,List.drop_length,List.take_length];rfl)
        have HFin:=hid hfin
        clear ha6 hn6 hfin SC hV5 hr5
        go_wp2_with fail
        go_ret
        refine ⟨_,_,rfl,HFin.out.1,?_,HFin.out.2⟩
        rw [HNW.out,placeF,HIs.out]
        simp only [Bool.false_eq_true,if_false]
        rw [HAt.out,List.map_append,List.map_cons,List.map_take,List.map_drop]
end Go.Proofs.YtcfngdnmpogaoaaGreat
