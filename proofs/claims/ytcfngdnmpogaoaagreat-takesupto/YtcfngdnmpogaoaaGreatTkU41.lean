import Derived.Test.YtcfngdnmpogaoaaGreatTkU34
import Derived.Test.YtcfngdnmpogaoaaGreatTkU39
import Derived.Test.YtcfngdnmpogaoaaGreatTkU40
namespace Go.Proofs.YtcfngdnmpogaoaaGreat
open Go.RowKit
variable {w:World}
set_option maxHeartbeats 6400000
set_option maxRecDepth 20000
theorem WinsAt.cells {wr:World} {a:Option Addr} {n c B:Nat} {xs:List WinX} (h:WinsAt w (.slice a n c) xs B) (hb:Below w.heap.size w wr) {k:Nat} {x:WinX} (hx:xs[k]?=some x):∃ g off,a=some ⟨g,off,none⟩/\n=xs.length/\wr.cell? ⟨g,off+k*7,none⟩=some (.string x.w.key)/\wr.cell? ⟨g,off+k*7+1,none⟩=some (.int .i64 x.w.start)/\wr.cell? ⟨g,off+k*7+2,none⟩=some (.int .i64 x.w.cnt)/\wr.cell? ⟨g,off+k*7+3,none⟩=some (.int .i64 x.w.sum)/\wr.cell? ⟨g,off+k*7+4,none⟩=some (.int .i64 x.w.lo)/\wr.cell? ⟨g,off+k*7+5,none⟩=some (.int .i64 x.w.hi)/\wr.cell? ⟨g,off+k*7+6,none⟩=some x.tv:=by
 have hl:(xs.flatMap wxCells).length=7*xs.length:=winFlat_len xs
 obtain ⟨hk,-⟩:=List.getElem?_eq_some_iff.1 hx
 obtain ⟨a',c',hv,-⟩:=h.row.len (by decide)
 simp only [Value.slice.injEq] at hv
 have hn:n=xs.length:=by omega
 obtain ⟨g,off,rfl⟩:=slice_some h.row (by omega)
 have hc:∀ j,j < 7->wr.cell? ⟨g,off+(k*7+j),none⟩=(wxCells x)[j]?:=fun j hj=>by
  rw [h.row.at hb (k*7+j) (by omega),winFlat xs k j x hx hj]
 exact ⟨g,off,rfl,hn,hc 0 (by omega),hc 1 (by omega),hc 2 (by omega),hc 3 (by omega),hc 4 (by omega),hc 5 (by omega),hc 6 (by omega)⟩
theorem WinsAt.len {v:Value} {xs:List WinX} {B:Nat} (h:WinsAt w v xs B):∃ a c,v=.slice a xs.length c:=by
 obtain ⟨a,c,hv,-⟩:=h.row.len (by decide)
 rw [winFlat_len,Nat.mul_div_cancel_left _ (by decide)] at hv
 exact ⟨a,c,hv⟩
theorem taggedL_len (E:List Ev) (key:ByteArray) (s size:Int) (hE:∀ e ∈ E,e.fits):(winF key s size E).tags.length<=E.length:=by
 have h:=winF_is key s size E hE
 have hn:(winF key s size E).tags.Nodup:=h.rise.imp (fun h=>by omega)
 have h1:=hn.length_le_of_subset (l₂:=E.map Ev.tag) (fun t ht=>by
  obtain ⟨e,he,h2⟩:=(h.tags t).1 ht
  exact List.mem_map.2 ⟨e,(List.mem_filter.1 he).1,h2⟩)
 rw [List.length_map] at h1
 exact h1
theorem DoneOk.few {size slide:Int} {T:Option Int} {lt:Int} {li:Bool} {E:List Ev} {ds:List Win} (h:DoneOk size slide T lt li E ds) (hE:∀ e ∈ E,e.fits):∀ x ∈ ds,x.tags.length<=E.length:=fun x hx=>by
 obtain ⟨k,s,-,rfl⟩:=(h.mem x).1 hx
 exact taggedL_len E k s size hE
theorem Ref.few {T:Option Int × Nat} {g:Nat} {c:Cf} {sp:Sp} {rs:List (List UInt8)} {G:Nat->Prop} (h:Ref T w g c sp rs G) (hc:CfOk c):T.2<=4097*sp.E.length/\∀ e ∈ sp.E,e.fits:=by
 obtain ⟨r,ds,_,h2,_⟩:=h
 have h3:=h2.done
 have h4:=cntAll_le c.size c.slide sp.lt sp.li sp.E hc.a1 hc.a6
 exact ⟨by omega,fun e he=>(h2.ok e he).1⟩
theorem taken_pl (own:Nat->Nat) (W:World) (bw:Nat) (ps hv:Value) (hs:List HoldD) (pls:List PlD) (fed:Nat) (i:Nat) (p:PlD) (h:Good own W bw ps hv hs pls fed) (hp:pls[i]?=some p) (hff:fed<=5000000) (hl:hs.length<=10000000000000) :
 Calls Tryz.prog 61 #[.pointer (some ⟨bw,0,none⟩),.pointer (some ⟨p.pb,0,none⟩)] W (StepL own bw hs (toldS pls) fed W):=by
 have hpm:=List.mem_of_getElem? hp
 have hil:i < pls.length:=(List.getElem?_eq_some_iff.1 hp).1
 have hi4:i < 4:=by have:=h.many;omega
 obtain ⟨hev1,hev2,hev3⟩:=h.even p hpm
 have hevT:=h.evenT p hpm
 have hpl:=h.inv.pl i p hp
 obtain ⟨hli,hlt⟩:(p.sp.E ≠ []->p.sp.li=true)/\p.sp.lt<=2305843009213693952:=by
  obtain ⟨r,ds,_,_,h3,hpd⟩:=hpl.ref
  rw [hev1] at h3 hpd
  exact ⟨hpd.rest h3,hpd.lt⟩
 have hE:p.sp.E.length<=200000:=by unfold heft at hev3;omega
 have HFit:Hid (∀ e ∈ p.sp.E,e.fits):=by
  have h9:=(hpl.ref.few hpl.conf).2
  rw [hev1] at h9
  exact h9
 have HCf:=hid hpl.conf
 have p0:W.cell? ⟨p.pb,0,none⟩=some (.pointer (some ⟨p.f,0,none⟩)):=cell_of_row _ _ 0 _ _ _ hpl.blk
 have HTk:Hid (Calls Tryz.prog 25 #[.pointer (some ⟨p.f,0,none⟩)] W fun e w'=>∃ ov ys,e=.returned ov/\WinsAt w' ov ys 0/\DoneOk p.c.size p.c.slide p.T p.sp.lt p.sp.li p.sp.E (ys.map WinX.w)/\(∀ k,ov.ownBlock=some k->W.heap.size<=k)/\(∀ x ∈ ys,∀ k,x.tv.ownBlock=some k->W.heap.size<=k)/\ys.Pairwise tvAp/\FlowOn w' p.f p.c p.sp p.rs (Grown (Own own W (2*i+1)) W) (tookT p.sp p.T)/\Kept (Own own W (2*i+1)) W w'):=
  take_on rising_any sort_ok p.f p.c p.sp p.rs _ p.T W hpl.code hli hE hpl.conf.a6 hlt
 have HG:=hid h
 clear h hpl
 go_enter Tryz.func61,Tryz.ntmps61
 go_wp2_with fail
 clear p0
 refine HTk.out.mono ?_
 rintro e V1 ⟨ov,ys,rfl,hw,hdn,hfo,hft,hap,hfl,hk⟩
 have HP1:=hid (HG.out.inv.took hp hk hfl hw)
 have HK1:=hid hk
 have HW1:=hid hw
 have HD1:=hid hdn
 have HF1:Hid ((∀ k,ov.ownBlock=some k->W.heap.size<=k)/\(∀ x ∈ ys,∀ k,x.tv.ownBlock=some k->W.heap.size<=k)):=⟨hfo,hft⟩
 have HAp:=hid hap
 have hp1:(pls.set i { p with T:=tookT p.sp p.T })[i]?=some { p with T:=tookT p.sp p.T }:=by rw [List.getElem?_set,if_pos rfl,if_pos hil]
 have hpl1:=HP1.out.pl i _ hp1
 have p1:V1.cell? ⟨p.pb,1,none⟩=some (.pointer (some ⟨p.r,0,none⟩)):=cell_of_row _ _ 1 _ _ _ hpl1.blk
 have HO1:Hid (∀ k,k < W.heap.size->growX own W (2*i+1) (outX ov ys) k=own k):=fun k hk=>growX_old hk
 have HX1:Hid (∀ k,outX ov ys k->growX own W (2*i+1) (outX ov ys) k=0):=fun k hx=>growX_out (by
  rcases hx with hx | ⟨x,hx,hk⟩
  . exact hfo k hx
  . exact hft x hx k hk) hx
 have HRt:Hid (Calls Tryz.prog 84 #[.pointer (some ⟨p.r,0,none⟩)] V1 fun e w'=>∃ mv ds,e=.returned mv/\WinsAt w' mv ds 0/\Pend p.c p.Tq.1 p.sq (ds.map WinX.w)/\Ref (tookT p.sq p.Tq.1,p.Tq.2+ds.length) w' p.r p.c p.sq p.rq (Own (growX own W (2*i+1) (outX ov ys)) V1 (2*i+2))/\Kept (Own (growX own W (2*i+1) (outX ov ys)) V1 (2*i+2)) V1 w'):=
  take_ref V1 p.r p.c p.sq p.rq _ p.Tq hpl1.ref
 obtain ⟨oa,oc,hov⟩:=hw.len
 subst hov
 generalize growX own W (2*i+1) (outX (.slice oa ys.length oc) ys)=own2 at *
 clear HTk hpl1 hw hdn hfo hft hap hfl hk
 go_wp2_with fail
 clear p1
 refine HRt.out.mono ?_
 rintro e V2 ⟨mv,ds,rfl,hm,hpd,hrf,hk⟩
 have HP2:=hid (HP1.out.rtook hp1 hk hrf)
 have HK2:=hid hk
 have HM2:=hid hm
 have hW2:WinsAt V2 (.slice oa ys.length oc) ys 0:=HW1.out.kept hk (fun k hk2 hh=>by have:=HX1.out k (.inl hk2);have:=hh.1;omega) (fun x hx k hk2 hh=>by have:=HX1.out k (.inr ⟨x,hx,hk2⟩);have:=hh.1;omega)
 have HW2:=hid hW2
 have hsame:ys.map WinX.w=ds.map WinX.w:=by
  have h9:=hpd.done
  rw [hevT,hev1] at h9
  exact HD1.out.uniq h9
 have HSame:=hid hsame
 have hlen:ds.length=ys.length:=by have:=congrArg List.length hsame;simpa using this.symm
 obtain ⟨ma,mc,hmv⟩:=hm.len
 rw [hlen] at hmv
 subst hmv
 obtain ⟨n,Hn⟩:∃ n,Hid (ys.length=n):=⟨_,rfl⟩
 rw [Hn.out] at HW2 HM2 HW1 ⊢
 have hnE:n<=1000000000:=by
  have h9:=(hrf.few HCf.out).1
  rw [hev1] at h9
  simp only at h9
  have:=Hn.out
  omega
 have HTf:Hid (∀ x ∈ ys,x.w.tags.length<=200000):=fun x hx=>Nat.le_trans (HD1.out.few HFit.out x.w (List.mem_map.2 ⟨x,hx,rfl⟩)) hE
 have HS2:Hid (V1.heap.size<=V2.heap.size/\W.heap.size<=V1.heap.size):=⟨hk.size,HK1.out.size⟩
 clear HRt hm hpd hrf hk hW2 hsame HP1
 have hnn:((n:Int) == (n:Int))=true:=by simp
 go_wp2_with fail
 go_loopw [7,8] (fun ok c wr=>∃ k:Nat,k<=n/\c=.int .i64 (k:Int)/\ok=.bool true/\Below V2.heap.size V2 wr) (fun _ c _=>n - (intOf c).toNat)
 case atStart=>exact ⟨0,Nat.zero_le _,rfl,by simp,Below.refl _ _⟩
 case round=>
  obtain ⟨k,hk,rfl,rfl,hbw⟩:=hrel
  have Hbw:=hid hbw
  clear hbw
  by_cases hkn:k < n
  . have hky:k < ys.length:=by rw [Hn.out];exact hkn
    have hkd:k < ds.length:=by rw [hlen];exact hky
    obtain ⟨g,off,rfl,-,a0,a1,a2,a3,a4,a5,a6⟩:=HW2.out.cells Hbw.out (List.getElem?_eq_getElem hky)
    obtain ⟨g2,off2,rfl,-,b0,b1,b2,b3,b4,b5,b6⟩:=HM2.out.cells Hbw.out (List.getElem?_eq_getElem hkd)
    have hww:ds[k].w=ys[k].w:=by
     have h1:=congrArg (fun l=>l[k]?) HSame.out
     simp only [List.getElem?_map,List.getElem?_eq_getElem hky,List.getElem?_eq_getElem hkd,Option.map_some,Option.some.injEq] at h1
     exact h1.symm
    rw [hww] at b0 b1 b2 b3 b4 b5
    have hta:=(HW2.out.tags ys[k] (List.getElem_mem hky)).1.below Hbw.out (fun j hj=>(((HW2.out.tags ys[k] (List.getElem_mem hky)).1).blk_lt hj).1)
    have htb:=(HM2.out.tags ds[k] (List.getElem_mem hkd)).1.below Hbw.out (fun j hj=>(((HM2.out.tags ds[k] (List.getElem_mem hkd)).1).blk_lt hj).1)
    rw [hww] at htb
    have hfew:=HTf.out ys[k] (List.getElem_mem hky)
    have HSm:=hid (same_any ys[k].w ys[k].tv ds[k].tv wr.drew (Row.drew hta) (Row.drew htb) (by omega))
    unfold wdC at HSm
    generalize ys[k].w=x at *
    generalize ys[k].tv=tva at *
    generalize ds[k].tv=tvb at *
    clear hta htb hww
    go_wp2_with fail
    refine wp_region_still_tail 8 (by kernel_rfl) (by kernel_rfl) ?_
    simp only [List.take_succ_cons,List.take_zero,List.drop_succ_cons,List.drop_zero]
    change wpStill Tryz.prog _ wr.drew (fun a'=>wpList Tryz.prog _ _ _ a' wr.drew) _ _
    have a0:wr.drew.cell? ⟨g,off+k*7,none⟩=some (.string x.key):=a0
    have a1:wr.drew.cell? ⟨g,off+k*7+1,none⟩=some (.int .i64 x.start):=a1
    have a2:wr.drew.cell? ⟨g,off+k*7+2,none⟩=some (.int .i64 x.cnt):=a2
    have a3:wr.drew.cell? ⟨g,off+k*7+3,none⟩=some (.int .i64 x.sum):=a3
    have a4:wr.drew.cell? ⟨g,off+k*7+4,none⟩=some (.int .i64 x.lo):=a4
    have a5:wr.drew.cell? ⟨g,off+k*7+5,none⟩=some (.int .i64 x.hi):=a5
    have a6:wr.drew.cell? ⟨g,off+k*7+6,none⟩=some tva:=a6
    have b0:wr.drew.cell? ⟨g2,off2+k*7,none⟩=some (.string x.key):=b0
    have b1:wr.drew.cell? ⟨g2,off2+k*7+1,none⟩=some (.int .i64 x.start):=b1
    have b2:wr.drew.cell? ⟨g2,off2+k*7+2,none⟩=some (.int .i64 x.cnt):=b2
    have b3:wr.drew.cell? ⟨g2,off2+k*7+3,none⟩=some (.int .i64 x.sum):=b3
    have b4:wr.drew.cell? ⟨g2,off2+k*7+4,none⟩=some (.int .i64 x.lo):=b4
    have b5:wr.drew.cell? ⟨g2,off2+k*7+5,none⟩=some (.int .i64 x.hi):=b5
    have b6:wr.drew.cell? ⟨g2,off2+k*7+6,none⟩=some tvb:=b6
    have HBd:=hid Hbw.out.drew
    generalize wr.drew=W3 at *
    repeat still_step
    refine wpStill_nil ?_
    go_wp2_with fail
    refine HSm.out.mono ?_
    rintro e W4 ⟨rfl,hb4⟩
    have HB4:=hid (HBd.out.trans (hb4.mono HBd.out.size))
    clear hb4 HSm a0 a1 a2 a3 a4 a5 a6 b0 b1 b2 b3 b4 b5 b6
    go_wp2_with fail
    go_roundw
    case rel=>exact ⟨k+1,by omega,by go_num,rfl,HB4.out⟩
    case measure=>simp [intOf];omega
  . have hkn':k=n:=by omega
    subst hkn'
    have HP3:=hid (HP2.out.below Hbw.out)
    have HW3:=hid (HW2.out.below Hbw.out)
    have HOX:Hid (∀ j,outX (.slice oa k oc) ys j->growO (growO own2 V1 (2*i+2)) V2 0 j=0):=fun j hj=>by
     have h1:j < V1.heap.size:=by
      rcases hj with hj | ⟨x,hx,hj⟩
      . exact (HW1.out.row.blk_lt hj).1
      . exact ((HW1.out.tags x hx).1.blk_lt hj).1
     have:=HS2.out
     rw [growO_old (by omega),growO_old h1]
     refine HX1.out j ?_
     rw [Hn.out]
     exact hj
    have HK3:Hid (KeepL (growO (growO own2 V1 (2*i+2)) V2 0) wr wr bw ps hs ((pls.set i { p with T:=tookT p.sp p.T }).set i { ({ p with T:=tookT p.sp p.T }:PlD) with Tq:=(tookT p.sq p.Tq.1,p.Tq.2+ds.length) }) (.slice oa k oc) ys 0 (growO (growO own2 V1 (2*i+2)) V2 0) hv []):=KeepL.start HP3.out HW3.out (fun d hd=>by
     refine (HG.out.inv.oh d hd).mono (HG.out.inv.inv.holds d hd) (fun j hj _=>⟨fun e=>?_,fun x hx e=>?_⟩)
     . have:=HF1.out.1 j (by rw [Hn.out];exact e);omega
     . have:=HF1.out.2 x (List.mem_of_mem_drop hx) j e;omega) HOX.out
    have hk1:Kept (fun j=>own j ≠ 99) W V1:=HK1.out.mono (fun j _ hh=>by have:=hh.1;omega)
    have HKw:Hid (Kept (fun j=>own j ≠ 99) W wr):=(hk1.step HK2.out (fun j hj hh=>by have:=hh.1;rw [HO1.out j hj] at this;omega)).step (Kept.ofBelow Hbw.out (fun _=>False)) (fun _ _ hh=>hh.elim)
    have HO3:Hid (∀ j,j < W.heap.size->growO (growO own2 V1 (2*i+2)) V2 0 j=own j):=fun j hj=>by
     have:=HS2.out
     rw [growO_old (by omega),growO_old (by omega)]
     exact HO1.out j hj
    have HTl:Hid (toldS ((pls.set i { p with T:=tookT p.sp p.T }).set i { ({ p with T:=tookT p.sp p.T }:PlD) with Tq:=(tookT p.sq p.Tq.1,p.Tq.2+ds.length) })=toldS pls+k):=by
     show _=_
     rw [List.set_set]
     have h9:toldS (pls.set i { ({ p with T:=tookT p.sp p.T }:PlD) with Tq:=(tookT p.sq p.Tq.1,p.Tq.2+ds.length) })+p.Tq.2=toldS pls+(p.Tq.2+ds.length):=toldS_set hp _
     have:=Hn.out
     generalize toldS (pls.set i { ({ p with T:=tookT p.sp p.T }:PlD) with Tq:=(tookT p.sq p.Tq.1,p.Tq.2+ds.length) })=Z at h9 ⊢
     omega
    have HEv:Hid (∀ q ∈ (pls.set i { p with T:=tookT p.sp p.T }).set i { ({ p with T:=tookT p.sp p.T }:PlD) with Tq:=(tookT p.sq p.Tq.1,p.Tq.2+ds.length) },(q.sq=q.sp/\q.rq=q.rs/\heft q.sp q.rs<=fed)/\q.Tq.1=q.T):=fun q hq=>by
     rw [List.set_set] at hq
     rcases List.mem_or_eq_of_mem_set hq with hq | rfl
     . exact ⟨HG.out.even q hq,HG.out.evenT q hq⟩
     . refine ⟨⟨hev1,hev2,hev3⟩,?_⟩
       show tookT p.sq p.Tq.1=tookT p.sp p.T
       rw [hev1,hevT]
    have HLn:Hid (((pls.set i { p with T:=tookT p.sp p.T }).set i { ({ p with T:=tookT p.sp p.T }:PlD) with Tq:=(tookT p.sq p.Tq.1,p.Tq.2+ds.length) }).length<=4):=by
     show _<=4
     rw [List.length_set,List.length_set];exact HG.out.many
    have HSz:=hid HKw.out.size
    clear HP2 HP3 HW2 HM2 HW1 HOX HX1 HK1 HK2 HO1 HD1 HSame hk1 Hbw
    generalize growO (growO own2 V1 (2*i+2)) V2 0=own3 at *
    generalize (pls.set i { p with T:=tookT p.sp p.T }).set i { ({ p with T:=tookT p.sp p.T }:PlD) with Tq:=(tookT p.sq p.Tq.1,p.Tq.2+ds.length) }=PL at *
    rename World=>V3
    go_wp2_with fail
    go_loopw [9] (fun c wx=>∃ (j:Nat) (own4:Nat->Nat) (hv4:Value) (hs4:List HoldD),j<=k/\c=.int .i64 (j:Int)/\KeepL own3 V3 wx bw ps hs PL (.slice oa k oc) ys j own4 hv4 hs4) (fun c _=>k - (intOf c).toNat)
    case atStart=>exact ⟨0,_,_,_,Nat.zero_le _,rfl,HK3.out⟩
    case round=>
     clear HK3
     obtain ⟨j,own4,hv4,hs4,hj,rfl,hKL⟩:=hrel
     have HKL:=hid hKL
     clear hKL
     by_cases hjk:j < k
     . have hjy:j < ys.length:=by rw [Hn.out];exact hjk
       have hx:=List.getElem?_eq_getElem hjy
       obtain ⟨g,off,rfl⟩:=slice_some HKL.out.row (by omega)
       have hlen2:(ys.flatMap wxCells).length=7*ys.length:=winFlat_len ys
       have hc6:wr.cell? ⟨g,off+(j*7+6),none⟩=some ys[j].tv:=by
        rw [HKL.out.row.cell (j*7+6) (by omega),winFlat ys j 6 ys[j] hx (by omega)];rfl
       simp only [<- Nat.add_assoc] at hc6
       have hxd:ys[j] ∈ ys.drop j:=by rw [drop_at hx];exact List.mem_cons_self
       obtain ⟨ta,tn,tc,htv⟩:=row_slice (HKL.out.tags ys[j] hxd)
       have HCl:Hid (Calls Tryz.prog 59 #[.pointer (some ⟨bw,0,none⟩),.pointer (some ⟨wr.heap.size,0,none⟩)] (wr.alloc (.cells #[.slice none 0 0,.slice ta tn tc,.slice none 0 0,.int .i64 0] 135)) fun e w'=>(∃ v,e=.returned v)/\∃ own5 hv5 hs5,KeepL own3 V3 w' bw ps hs PL (.slice (some ⟨g,off,none⟩) k oc) ys (j+1) own5 hv5 hs5):=by
        rw [<- htv]
        exact HKL.out.keep hx HAp.out (by omega) (by have:=HTf.out ys[j] (List.getElem_mem hjy);omega)
       rw [htv] at hc6
       clear hx hxd htv
       go_wp2_with fail
       refine HCl.out.mono ?_
       rintro e W5 ⟨⟨v,rfl⟩,own5,hv5,hs5,hK5⟩
       have HK5:=hid hK5
       clear hK5 HCl hc6
       go_wp2_with fail
       go_roundw
       case rel=>exact ⟨j+1,_,_,_,by omega,by go_num,HK5.out⟩
       case measure=>simp [intOf];omega
     . have hjk':j=k:=by omega
       subst hjk'
       have HLa:=hid (HKL.out.last (by omega) (by rw [Hn.out];omega))
       clear HKL
       go_wp2_with fail
       refine HLa.out.mono ?_
       rintro e W5 ⟨⟨v,rfl⟩,own5,hv5,hs5,hP5,hl5,ho5,hk5⟩
       have HP5:Hid (PInv own5 W5 bw ps hv5 (hs++hs5) PL/\(∀ q,q < V3.heap.size->own5 q=own3 q)/\Kept (fun q=>own3 q=0) V3 W5):=⟨hP5,ho5,hk5⟩
       clear hP5 ho5 hk5 HLa
       go_wp2_with fail
       go_ret
       have hsz3:=HSz.out
       refine ⟨rfl,own5,ps,hv5,hs++hs5,PL,⟨HP5.out.1,fun q hq=>(HEv.out q hq).1,HLn.out,fun q hq=>(HEv.out q hq).2⟩,fun q hq=>(HP5.out.2.1 q (by omega)).trans (HO3.out q hq),HKw.out.step HP5.out.2.2 (fun q hq hh=>?_),?_⟩
       . rw [HO3.out q hq] at hh;omega
       . rw [List.length_append,HTl.out];omega
end Go.Proofs.YtcfngdnmpogaoaaGreat
namespace Go.Proofs.YtcfngdnmpogaoaaGreat
open Go.RowKit
set_option maxHeartbeats 6400000
set_option maxRecDepth 20000
theorem step_take (own:Nat->Nat) (w:World) (bw:Nat) (ps hv:Value) (hs:List HoldD) (pls:List PlD) (fed:Nat) (o:OpD) (h:Good own w bw ps hv hs pls fed) (hf:o.Fits) (hn1:-9223372036854775808<=o.n) (hn2:o.n<=9223372036854775807) (hne:0 < pls.length) (hk:o.kind=9) (hff:fed+o.s.size<=5000000) (hl:hs.length<=10000000000000) :
 Calls Tryz.prog 32 #[.pointer (some ⟨bw,0,none⟩),.agg o.cells] w (StepL own bw hs (toldS pls) (fed+o.s.size) w):=by
 have hmany:=h.many
 obtain ⟨i,p,hpi,hp⟩:∃ (i:Nat) (p:PlD),pickW o.n (pls.length:Int)=(i:Int)/\pls[i]?=some p:=by
  obtain ⟨h1,h2⟩:=pickW_lt o.n (pls.length:Int) (by omega)
  exact ⟨(pickW o.n (pls.length:Int)).toNat,pls[(pickW o.n (pls.length:Int)).toNat]'(by omega),by omega,List.getElem?_eq_getElem _⟩
 have hil:i < pls.length:=(List.getElem?_eq_some_iff.1 hp).1
 have hpk:∀ W,Calls Tryz.prog 54 #[.int .i64 o.n,.int .i64 (pls.length:Int)] W fun e w'=>e=.returned (.int .i64 (i:Int))/\w'=W:=fun W=>by
  rw [<- hpi];exact pickL_any o.n pls.length W hn1 hn2 (by omega) (by omega)
 have hpl:=h.inv.prow
 have hplen:(plPtrs pls).length=pls.length:=by unfold plPtrs;rw [List.length_map]
 obtain ⟨pa,pc,hpv,-⟩:=hpl.len (by decide)
 rw [hplen,Nat.div_one] at hpv
 subst hpv
 obtain ⟨pg,po,rfl⟩:=slice_some hpl (by omega)
 have hpcell:w.cell? ⟨pg,po+i,none⟩=some (.pointer (some ⟨p.pb,0,none⟩)):=by
  have:=hpl.cell i (by omega)
  rw [this];unfold plPtrs;rw [List.getElem?_map,hp];rfl
 have hpgl:=(hpl.blk_lt (k:=pg) rfl).1
 have HG:=hid h
 have HP0:Hid (PInv (growO own w 0) (w.alloc (.cells o.cells 79)) bw (.slice (some ⟨pg,po,none⟩) pls.length pc) hv hs pls):=h.inv.below ((Below.refl _ w).alloc (Nat.le_refl _) _)
 have hbox:=heap_alloc_new w (.cells o.cells 79)
 have HS0:Hid ((w.alloc (.cells o.cells 79)).heap.size=w.heap.size+1):=by show _=_;simp
 have HK0:Hid (Kept (fun k=>own k ≠ 99) w (w.alloc (.cells o.cells 79))):=(Kept.refl _ w).alloc _
 obtain ⟨c0,c1,fw,hbw⟩:=world_cells h.inv.inv.blk
 have hlen0:¬ ((pls.length:Nat):Int)=0:=by omega
 have hlen1:¬ pls.length=0:=by omega
 have hin:(i:Int) < (pls.length:Int):=by omega
 clear h
 obtain ⟨kind,n,source,s,ik,ikey,itime,ivalue,itag,q0,q1,q2,q3⟩:=o
 simp only [OpD.cells] at *
 subst hk
 have hc0:(w.alloc (.cells #[.int .i64 9,.int .i64 n,.int .i64 source,.string s,.int .i64 ik,.string ikey,.int .i64 itime,.int .i64 ivalue,.int .u32 (itag:Int),.int .i64 q0,.int .i64 q1,.int .i64 q2,.int .i64 q3] 79)).cell? ⟨bw,0,none⟩=some (.slice (some ⟨pg,po,none⟩) pls.length pc):=(((Below.refl w.heap.size w).alloc (Nat.le_refl _) _).cell (p:=⟨bw,0,none⟩) hbw).trans c0
 have hpc0:(w.alloc (.cells #[.int .i64 9,.int .i64 n,.int .i64 source,.string s,.int .i64 ik,.string ikey,.int .i64 itime,.int .i64 ivalue,.int .u32 (itag:Int),.int .i64 q0,.int .i64 q1,.int .i64 q2,.int .i64 q3] 79)).cell? ⟨pg,po+i,none⟩=some (.pointer (some ⟨p.pb,0,none⟩)):=(((Below.refl w.heap.size w).alloc (Nat.le_refl _) _).cell (p:=⟨pg,po+i,none⟩) hpgl).trans hpcell
 go_enter Tryz.func32,Tryz.ntmps32
 go_upto_region 5 with fail
 clear c0 c1 fw hpcell
 have b0:=fun j=>cell_of_row _ _ j _ _ _ hbox
 have b1:=b0 1
 simp only [List.getElem?_toArray,List.getElem?_cons_zero,List.getElem?_cons_succ] at b1
 have HBox:=hid hbox
 clear b0 hbox
 generalize w.alloc (.cells #[.int .i64 9,.int .i64 n,.int .i64 source,.string s,.int .i64 ik,.string ikey,.int .i64 itime,.int .i64 ivalue,.int .u32 (itag:Int),.int .i64 q0,.int .i64 q1,.int .i64 q2,.int .i64 q3] 79)=W0 at *
 go_quiet ((go_at_call 54;exact Calls.quiet_of_same (hpk _)))
 have HP1:Hid (PInv (growO (growO own w 0) W0 0) (W0.drewN nq) bw (.slice (some ⟨pg,po,none⟩) pls.length pc) hv hs pls):=HP0.out.below (below_drewN (Below.refl _ W0) nq)
 have HK1:=hid (HK0.out.drewN nq)
 have HS1:Hid ((W0.drewN nq).heap.size=w.heap.size+1):=by show _=_;rw [<- HS0.out];simp
 have HBox1:Hid ((W0.drewN nq).heap[w.heap.size]?=some (.cells #[.int .i64 9,.int .i64 n,.int .i64 source,.string s,.int .i64 ik,.string ikey,.int .i64 itime,.int .i64 ivalue,.int .u32 (itag:Int),.int .i64 q0,.int .i64 q1,.int .i64 q2,.int .i64 q3] 79 (0,0))):=by show _=_;simpa using HBox.out
 have HO1:Hid (∀ k,k < w.heap.size->growO (growO own w 0) W0 0 k=own k):=fun k hk=>(growO_old (by rw [HS0.out];omega)).trans (growO_old hk)
 have HOB:Hid (growO (growO own w 0) W0 0 w.heap.size=0):=(growO_old (by rw [HS0.out];omega)).trans (growO_new (Nat.le_refl _))
 clear HP0 HK0 HS0 HBox b1 hc0 hpc0 hpk
 generalize growO (growO own w 0) W0 0=own1 at *
 generalize W0.drewN nq=W1 at *
 have b0:W1.cell? ⟨w.heap.size,0,none⟩=some (.int .i64 9):=cell_of_row _ _ 0 _ _ _ HBox1.out
 have HGd:Good own1 W1 bw (.slice (some ⟨pg,po,none⟩) pls.length pc) hv hs pls (fed+s.size):=⟨HP1.out,fun q hq=>⟨(HG.out.even q hq).1,(HG.out.even q hq).2.1,by have:=(HG.out.even q hq).2.2;omega⟩,HG.out.many,HG.out.evenT⟩
 have HT:Hid (Calls Tryz.prog 61 #[.pointer (some ⟨bw,0,none⟩),.pointer (some ⟨p.pb,0,none⟩)] W1 (StepL own1 bw hs (toldS pls) (fed+s.size) W1)):=taken_pl own1 W1 bw _ hv hs pls _ i p HGd hp hff hl
 clear HGd HP1
 go_wp2_with fail
 clear b0
 refine HT.out.mono ?_
 rintro e W2 ⟨rfl,own2,ps2,hv2,hs2,pls2,g1,g2,g3,g4⟩
 go_wp2_with fail
 go_ret
 refine ⟨rfl,own2,ps2,hv2,hs2,pls2,g1,fun k hk=>(g2 k (by rw [HS1.out];omega)).trans (HO1.out k hk),HK1.out.step g3 (fun k hk hh=>?_),g4⟩
 rw [HO1.out k hk] at hh;exact hh
theorem step_all (own:Nat->Nat) (w:World) (bw:Nat) (ps hv:Value) (hs:List HoldD) (pls:List PlD) (fed:Nat) (o:OpD) (h:Good own w bw ps hv hs pls fed) (hf:o.Fits) (hn1:-9223372036854775808<=o.n) (hn2:o.n<=9223372036854775807) (hk:o.kind<=9) (hff:fed+o.s.size<=5000000) (hl:hs.length<=10000000000000) :
 Calls Tryz.prog 32 #[.pointer (some ⟨bw,0,none⟩),.agg o.cells] w (StepL own bw hs (toldS pls) (fed+o.s.size) w):=by
 by_cases h9:o.kind=9
 . by_cases hp:0 < pls.length
   . exact step_take own w bw ps hv hs pls fed o h hf hn1 hn2 hp h9 hff (by omega)
   . have:pls=[]:=List.eq_nil_of_length_eq_zero (by omega)
     subst this
     exact step_void own w bw ps hv hs fed o h (by omega)
 . exact step_lines own w bw ps hv hs pls fed o h hf hn1 hn2 (by omega) hff (by omega)
end Go.Proofs.YtcfngdnmpogaoaaGreat
namespace Go.Proofs.YtcfngdnmpogaoaaGreat
open Go.RowKit
variable {hs:List HoldD} {hv ps:Value} {own:Nat->Nat} {pls:List PlD} {w:World}
set_option maxHeartbeats 3200000
set_option maxRecDepth 20000
def OpD.FitsN (o:OpD):Prop:=o.Fits/\-9223372036854775808<=o.n/\o.n<=9223372036854775807
def fedS (ops:List OpD):Nat:=(ops.map fun o=>o.s.size).sum
theorem fedS_take (ops:List OpD) (k:Nat) (h:k < ops.length):fedS (ops.take (k+1))=fedS (ops.take k)+(ops[k]).s.size:=by
 unfold fedS
 rw [List.take_succ_eq_append_getElem h,List.map_append,List.sum_append];simp
theorem fedS_le (ops:List OpD) (k:Nat):fedS (ops.take k)<=fedS ops:=by
 have h:=congrArg fedS (List.take_append_drop k ops)
 unfold fedS at *
 rw [List.map_append,List.sum_append] at h;omega
theorem Good.told {bw:Nat} {fed:Nat} (h:Good own w bw ps hv hs pls fed) (hf:fed<=5000000):toldS pls<=4000000000:=by
 have h1:∀ p ∈ pls,p.Tq.2<=1000000000:=fun p hp=>by
  obtain ⟨i,hi,rfl⟩:=List.mem_iff_getElem.1 hp
  have hpl:=h.inv.pl i _ (List.getElem?_eq_getElem hi)
  have h2:=(hpl.ref.few hpl.conf).1
  obtain ⟨e1,_,e3⟩:=h.even _ hp
  rw [e1] at h2
  unfold heft at e3
  omega
 have h2:∀ (l:List PlD),(∀ p ∈ l,p.Tq.2<=1000000000)->toldS l<=1000000000*l.length:=fun l=>by
  induction l with
  | nil=>intro _;simp [toldS]
  | cons a l ih=>
    intro hl
    have h3:=ih (fun p hp=>hl p (List.mem_cons_of_mem _ hp))
    have h4:=hl a List.mem_cons_self
    unfold toldS at *
    simp only [List.map_cons,List.sum_cons,List.length_cons];omega
 have h3:=h2 pls h1
 have:=h.many
 omega
structure UInv (w wr:World) (ops:List OpD) (k:Nat) (own:Nat->Nat) (ps hv:Value) (hs:List HoldD) (pls:List PlD):Prop where
 good:Good own wr w.heap.size ps hv hs pls (fedS (ops.take k))
 far:∀ j,j < w.heap.size->own j=99
 below:Below w.heap.size w wr
 few:hs.length<=4*k+4*toldS pls
def own99 (w:World) (k:Nat):Nat:=if k < w.heap.size then 99 else 0
theorem UInv.start (w:World) (ops:List OpD):UInv w (w.alloc (.cells #[.slice none 0 0,.slice none 0 0] 84)) ops 0 (own99 w) (.slice none 0 0) (.slice none 0 0) [] []:=
 ⟨⟨⟨⟨heap_alloc_new w _,Row.nil _ _ _,by simp⟩,Row.nil _ _ _,if_neg (by omega),by simp [Value.ownBlock],by simp [Value.ownBlock],by simp,fun i p hp=>by simp at hp⟩,fun p hp=>by simp at hp,by simp,fun p hp=>by simp at hp⟩,fun j hj=>if_pos hj,(Below.refl _ w).alloc (Nat.le_refl _) _,by simp⟩
theorem UInv.skip {wr:World} {ops:List OpD} {k:Nat} (h:UInv w wr ops k own ps hv hs pls) (hk:k < ops.length):UInv w wr ops (k+1) own ps hv hs pls:=
 ⟨h.good.mono (by rw [fedS_take ops k hk];omega),h.far,h.below,by have:=h.few;omega⟩
theorem UInv.next {wr W W2:World} {ops:List OpD} {k:Nat} {own':Nat->Nat} {ps' hv':Value} {hs':List HoldD} {pls':List PlD} (h:UInv w wr ops k own ps hv hs pls) (hk:k < ops.length) (h1:Good own' W w.heap.size ps' hv' hs' pls' (fedS (ops.take k)+(ops[k]).s.size)) (h2:∀ j,j < wr.heap.size->own' j=own j) (h3:Kept (fun j=>own j ≠ 99) wr W) (h4:hs'.length+4*toldS pls<=hs.length+4+4*toldS pls') (hb:Below W.heap.size W W2) :
 UInv w W2 ops (k+1) (growO own' W 0) ps' hv' hs' pls':=by
 have hs1:=h.below.size
 have hs3:=h3.size
 have hb1:=h.below.trans (h3.toBelow hs1 (fun j hj hh=>hh (h.far j hj)))
 refine ⟨?_,fun j hj=>?_,hb1.trans (hb.mono (by omega)),by have:=h.few;omega⟩
 . rw [fedS_take ops k hk];exact h1.below hb
 . rw [growO_old (by omega),h2 j (by omega)];exact h.far j hj
theorem upTo_all (lo hi:Int) (_hlo:1<=lo) (hhi:hi<=9) (b off cap:Nat) (ops:List OpD) (w:World) (hsc:Script w b off ops) (hb:b < w.heap.size) (hf:∀ o ∈ ops,o.FitsN) (hl:ops.length<=1000000000000) (hsum:fedS ops<=5000000) :
 Calls Tryz.prog 13 #[.slice (some ⟨b,off,none⟩) ops.length cap,.int .i64 lo,.int .i64 hi] w fun e w'=>e=.returned (.int .i64 (-1))/\Below w.heap.size w w':=by
 have Hsc:=hid hsc
 have Hf:=hid hf
 clear hsc hf
 go_enter Tryz.func13,Tryz.ntmps13
 go_wp2
 go_loopw [8] (fun i wr=>∃ (k:Nat) (own:Nat->Nat) (ps hv:Value) (hs:List HoldD) (pls:List PlD),k<=ops.length/\i=.int .i64 (k:Int)/\UInv w wr ops k own ps hv hs pls) (fun i _=>ops.length - (intOf i).toNat)
 case atStart=>exact ⟨0,_,_,_,_,_,Nat.zero_le _,rfl,UInv.start w ops⟩
 case round=>
  obtain ⟨k,own,ps,hv,hs,pls,hk,rfl,hU⟩:=hrel
  have HU:=hid hU
  clear hU
  by_cases hkn:k < ops.length
  . have hcell:∀ j,j < 13->wr.cell? ⟨b,off+(k*13+j),none⟩=(ops[k]).cells[j]?:=fun j hj=>by
     rw [HU.out.below.cell (by exact hb)];exact Hsc.out k hkn j hj
    have hof:=Hf.out ops[k] (List.getElem_mem hkn)
    have hfe:=fedS_take ops k hkn
    have hfl:=fedS_le ops (k+1)
    have hfew:=HU.out.few
    have htl:=HU.out.good.told (by have:=fedS_le ops k;omega)
    have HNext:Hid (∀ (own':Nat->Nat) (W W2:World) ps' hv' hs' pls',Good own' W w.heap.size ps' hv' hs' pls' (fedS (ops.take k)+(ops[k]).s.size)->(∀ j,j < wr.heap.size->own' j=own j)->Kept (fun j=>own j ≠ 99) wr W->hs'.length+4*toldS pls<=hs.length+4+4*toldS pls'->Below W.heap.size W W2->UInv w W2 ops (k+1) (growO own' W 0) ps' hv' hs' pls'):=fun own' W W2 ps' hv' hs' pls' a1 a2 a3 a4 a5=>HU.out.next hkn a1 a2 a3 a4 a5
    have HSkip:=hid (HU.out.skip hkn)
    rw [hfe] at hfl
    generalize ops[k]=o at *
    have h0:=hcell 0 (by omega)
    have h1:=hcell 1 (by omega)
    have h2:=hcell 2 (by omega)
    have h3:=hcell 3 (by omega)
    have h4:=hcell 4 (by omega)
    have h5:=hcell 5 (by omega)
    have h6:=hcell 6 (by omega)
    have h7:=hcell 7 (by omega)
    have h8:=hcell 8 (by omega)
    have h9:=hcell 9 (by omega)
    have h10:=hcell 10 (by omega)
    have h11:=hcell 11 (by omega)
    have h12:=hcell 12 (by omega)
    have HS:Hid (o.kind<=9->Calls Tryz.prog 32 #[.pointer (some ⟨w.heap.size,0,none⟩),.agg o.cells] wr (StepL own w.heap.size hs (toldS pls) (fedS (ops.take k)+o.s.size) wr)):=fun hko=>step_all own wr w.heap.size ps hv hs pls _ o HU.out.good hof.1 hof.2.1 hof.2.2 hko (by omega) (by omega)
    clear hcell hof hfe
    obtain ⟨kind,n,source,s,ik,ikey,itime,ivalue,itag,q0,q1,q2,q3⟩:=o
    simp only [OpD.cells,List.getElem?_toArray,List.getElem?_cons_zero,List.getElem?_cons_succ,Nat.add_zero,<- Nat.add_assoc] at h0 h1 h2 h3 h4 h5 h6 h7 h8 h9 h10 h11 h12 HS HNext
    by_cases hk8:hi < kind
    . clear h1 h2 h3 h4 h5 h6 h7 h8 h9 h10 h11 h12
      go_wp2
      go_roundw
      case rel=>exact ⟨k+1,own,ps,hv,hs,pls,by omega,by go_num,HSkip.out⟩
      case measure=>simp [intOf];omega
    . have hko:Hid (kind<=9):=by show _<=_;omega
      have hd8:decide (kind > hi)=false:=decide_eq_false (by omega)
      by_cases hk3:kind < lo
      . by_cases hl2:lo<=2
        . clear h1 h2 h3 h4 h5 h6 h7 h8 h9 h10 h11 h12
          go_wp2
          go_roundw
          case rel=>exact ⟨k+1,own,ps,hv,hs,pls,by omega,by go_num,HSkip.out⟩
          case measure=>simp [intOf];omega
        . have hk4:¬ lo<=kind:=by omega
          go_wp2_with fail
          refine (HS.out hko.out).mono ?_
          rintro e W ⟨rfl,own',ps',hv',hs',pls',a1,a2,a3,a4⟩
          clear h0 h1 h2 h3 h4 h5 h6 h7 h8 h9 h10 h11 h12
          have htl':=a1.told (by omega)
          have A1:=hid a1
          have A2:=hid a2
          have A3:=hid a3
          clear a1 a2 a3
          go_wp2_with fail
          refine (looks_any w.heap.size _ hv' hs' W A1.out.inv.inv (by omega)).mono ?_
          rintro e W2 ⟨rfl,hb2⟩
          have HN:=hid (HNext.out own' W W2 ps' hv' hs' pls' A1.out A2.out A3.out a4 hb2)
          clear hb2
          go_wp2
          all_goals
           go_roundw
           case rel=>exact ⟨k+1,_,ps',hv',hs',pls',by omega,by go_num,HN.out⟩
           case measure=>simp [intOf];omega
      . have hk4:lo<=kind:=by omega
        go_wp2_with fail
        refine (HS.out hko.out).mono ?_
        rintro e W ⟨rfl,own',ps',hv',hs',pls',a1,a2,a3,a4⟩
        clear h0 h1 h2 h3 h4 h5 h6 h7 h8 h9 h10 h11 h12
        have htl':=a1.told (by omega)
        have A1:=hid a1
        have A2:=hid a2
        have A3:=hid a3
        clear a1 a2 a3
        go_wp2_with fail
        refine (looks_any w.heap.size _ hv' hs' W A1.out.inv.inv (by omega)).mono ?_
        rintro e W2 ⟨rfl,hb2⟩
        have HN:=hid (HNext.out own' W W2 ps' hv' hs' pls' A1.out A2.out A3.out a4 hb2)
        clear hb2
        go_wp2
        all_goals
         go_roundw
         case rel=>exact ⟨k+1,_,ps',hv',hs',pls',by omega,by go_num,HN.out⟩
         case measure=>simp [intOf];omega
  . go_wp2
    go_ret
    exact ⟨rfl,HU.out.below⟩
theorem upToL_empty (lo hi:Int) (a:Option Addr) (cap:Nat) (w:World) :
 Calls Tryz.prog 13 #[.slice a 0 cap,.int .i64 lo,.int .i64 hi] w fun e w'=>e=.returned (.int .i64 (-1))/\Below w.heap.size w w':=by
 go_enter Tryz.func13,Tryz.ntmps13
 go_wp2
 refine wp_loop_rounds 1 ?_
 rw [rounds_succ]
 go_wp2
 go_ret
 exact ⟨rfl,(Below.refl _ w).alloc (Nat.le_refl _) _⟩
end Go.Proofs.YtcfngdnmpogaoaaGreat
