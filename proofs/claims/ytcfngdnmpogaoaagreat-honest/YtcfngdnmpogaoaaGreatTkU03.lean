import Derived.Test.YtcfngdnmpogaoaaGreatTkU02
import Derived.BigQuiet
namespace Go.Proofs.YtcfngdnmpogaoaaGreat
open Go.RowKit Go.MuLone
variable {b n:Nat} {cv gv:Value} {d:RunD} {p1 p2 p3 ps:List Pane} {r:RunS} {w:World}
theorem enterTEA:∀ (vs:Array Value) (w:World),(callFunc 207 vs).run Tryz.prog w=.ok (.enter 207 vs) w:=enters_of Tryz.func207 (by kernel_rfl) rfl
theorem enterBEA:∀ (vs:Array Value) (w:World),(callFunc 209 vs).run Tryz.prog w=.ok (.enter 209 vs) w:=enters_of Tryz.func209 (by kernel_rfl) rfl
theorem enterGEA:∀ (vs:Array Value) (w:World),(callFunc 213 vs).run Tryz.prog w=.ok (.enter 213 vs) w:=enters_of Tryz.func213 (by kernel_rfl) rfl
structure RunMid (w:World) (d:RunD) (r:RunS) (n:Nat) (p1 p2 p3:List Pane):Prop where
 run:w.heap[d.R]?=some (.cells (runCells r.key d.pv (n:Int) r.next (.slice (some ⟨d.b+3,0,none⟩) 3 3)) 178 (0,0))
 panes:Row w 208 1 d.pv (d.Ps.map fun p=>.pointer (some ⟨p.1,0,none⟩))
 len:d.Ps.length=r.ps.length
 each:∀ (i:Nat) P M p,d.Ps[i]?=some (P,M)->r.ps[i]?=some p->PaneAt w P M p
 nodP:(d.Ps.map Prod.fst).Nodup
 nodM:(d.Ps.map Prod.snd).Nodup
 tcM:∀ p ∈ d.Ps,p.2 ≠ d.b+2
 ins:n<=r.ps.length
 parts:PartsMid w d.b d.cv d.gv p1 p2 p3
theorem RunAt.mid (h:RunAt w d r):RunMid w d r r.inside (r.ps.take r.inside) (r.ps.take r.inside) (r.ps.take r.inside):=⟨h.run,h.panes,h.len,h.each,h.nodP,h.nodM,h.tcM,h.ins,h.parts.mid⟩
theorem RunMid.at (h:RunMid w d r n (r.ps.take n) (r.ps.take n) (r.ps.take n)):RunAt w d { r with inside:=n }:=⟨h.run,h.panes,h.len,h.each,h.nodP,h.nodM,h.tcM,h.ins,h.parts.at⟩
theorem PartsMid.kind (h:PartsMid w b cv gv p1 p2 p3) {k:Nat} (hk:partsFoot b cv gv k):(k=b+2/\Mb w k)\/∃ t,Cb w k t/\(t=214\/t=240\/t=210\/t=261):=by
 obtain ⟨k1,k2⟩:=h.kindOf
 rcases hk with ⟨a1,a2⟩ | hk | hk
 . have:k=b\/k=b+1\/k=b+2\/k=b+3:=by omega
   rcases this with rfl | rfl | rfl | rfl
   . exact .inr ⟨_,Cb.of h.tot,by simp⟩
   . exact .inr ⟨_,Cb.of h.bnd,by simp⟩
   . exact .inl ⟨rfl,h.tags.mb⟩
   . exact .inr ⟨_,Cb.of h.all,by simp⟩
 . exact .inr ⟨_,k1 k hk,by simp⟩
 . exact .inr ⟨_,k2 k hk,by simp⟩
theorem PartsMid.not (h:PartsMid w b cv gv p1 p2 p3) {k:Nat} {t:TypeId} (hc:Cb w k t) (h1:t ≠ 214) (h2:t ≠ 240) (h3:t ≠ 210) (h4:t ≠ 261):¬ partsFoot b cv gv k:=fun hk=>by
 rcases h.kind hk with ⟨_,hm⟩ | ⟨u,hu,hh⟩
 . exact hc.neM hm rfl
 . have:t ≠ u:=by rcases hh with rfl | rfl | rfl | rfl;exact h1;exact h2;exact h3;exact h4
   exact hc.ne hu this rfl
theorem PartsMid.notM (h:PartsMid w b cv gv p1 p2 p3) {k:Nat} (hm:Mb w k) (hk2:k ≠ b+2):¬ partsFoot b cv gv k:=fun hk=>by
 rcases h.kind hk with ⟨e,_⟩ | ⟨u,hu,_⟩
 . exact hk2 e
 . exact hu.neM hm rfl
theorem RunMid.turn {w':World} {q1 q2 q3:List Pane} {cv' gv':Value} (h:RunMid w d r n p1 p2 p3) (hk:Kept (partsFoot d.b d.cv d.gv) w w') (hp:PartsMid w' d.b cv' gv' q1 q2 q3):RunMid w' { d with cv:=cv',gv:=gv' } r n q1 q2 q3:=by
 refine ⟨(hk.block d.R (blkLt h.run) (h.parts.not (Cb.of h.run) (by decide) (by decide) (by decide) (by decide))).trans h.run,h.panes.kept hk (fun k hk=>h.parts.not (h.panes.cb hk) (by decide) (by decide) (by decide) (by decide)),h.len,fun i P M p h1 h2=>?_,h.nodP,h.nodM,h.tcM,h.ins,hp⟩
 have hpa:=h.each i P M p h1 h2
 exact hpa.congr (hk.block P (blkLt hpa.pane) (h.parts.not (Cb.of hpa.pane) (by decide) (by decide) (by decide) (by decide))) (hk.block M hpa.tags.lt (h.parts.notM hpa.tags.mb (h.tcM (P,M) (List.mem_of_getElem? h1))))
theorem RunMid.same {w':World} (h:RunMid w d r n p1 p2 p3) (hh:w'.heap=w.heap):RunMid w' d r n p1 p2 p3:=by
 have hb:∀ k:Nat,w'.heap[k]?=w.heap[k]?:=fun k=>by rw [hh]
 exact ⟨(hb _).trans h.run,h.panes.congr (fun k _=>hb k),h.len,fun i P M p h1 h2=>(h.each i P M p h1 h2).congr (hb _) (hb _),h.nodP,h.nodM,h.tcM,h.ins,h.parts.congr (fun k _=>hb k)⟩
theorem RunMid.moved {m:Nat} (h:RunMid w d r n p1 p2 p3) (hm:m<=r.ps.length):RunMid (w.setCell ⟨d.R,2,none⟩ (.int .i64 (m:Int))) d r m p1 p2 p3:=by
 have hoth:∀ k,k ≠ d.R->(w.setCell ⟨d.R,2,none⟩ (.int .i64 (m:Int))).heap[k]?=w.heap[k]?:=fun k hk=>heap_setCell_other _ _ _ _ hk
 refine ⟨blkPut h.run 2 _,h.panes.congr (fun k hk=>hoth k ((h.panes.cb hk).ne (Cb.of h.run) (by decide))),h.len,fun i P M p h1 h2=>?_,h.nodP,h.nodM,h.tcM,hm,h.parts.congr (fun k hk=>hoth k (fun e=>?_))⟩
 . have hpa:=h.each i P M p h1 h2
   exact hpa.congr (hoth P ((Cb.of hpa.pane).ne (Cb.of h.run) (by decide))) (hoth M (fun e=>(Cb.of h.run).neM hpa.tags.mb e.symm))
 . subst e
   exact h.parts.not (Cb.of h.run) (by decide) (by decide) (by decide) (by decide) hk
theorem RunMid.pane (h:RunMid w d r n p1 p2 p3) (i:Nat) (hi:i < r.ps.length):∃ P M p pg po pc,d.Ps[i]?=some (P,M)/\r.ps[i]?=some p/\d.pv=.slice (some ⟨pg,po,none⟩) r.ps.length pc/\w.cell? ⟨pg,po+i,none⟩=some (.pointer (some ⟨P,0,none⟩))/\PaneAt w P M p:=by
 have hi2:i < d.Ps.length:=by rw [h.len];exact hi
 obtain ⟨a,c,hv,-⟩:=h.panes.len (by decide)
 rw [List.length_map,Nat.div_one,h.len] at hv
 have hr:=h.panes
 rw [hv] at hr
 obtain ⟨pg,po,rfl⟩:=slice_some hr (by omega)
 have hc:=hr.cell i (by omega)
 rw [List.getElem?_map,List.getElem?_eq_getElem hi2] at hc
 exact ⟨d.Ps[i].1,d.Ps[i].2,r.ps[i],pg,po,c,List.getElem?_eq_getElem hi2,List.getElem?_eq_getElem hi,hv,hc,h.each i _ _ _ (List.getElem?_eq_getElem hi2) (List.getElem?_eq_getElem hi)⟩
def enterN (ps:List Pane) (n:Nat) (start:Int):Nat:=n+((ps.drop n).takeWhile (fun p=>decide (p.first<=start))).length
theorem enterN_step {start:Int} {p:Pane} (h:ps[n]?=some p) (hp:p.first<=start):enterN ps (n+1) start=enterN ps n start:=by
 unfold enterN
 have hn:n < ps.length:=(List.getElem?_eq_some_iff.1 h).1
 have e:ps[n]=p:=(List.getElem?_eq_some_iff.1 h).2
 rw [List.drop_eq_getElem_cons hn,e,List.takeWhile_cons]
 simp only [hp,decide_true,if_true,List.length_cons];omega
theorem enterN_stop {start:Int} (h:∀ p,ps[n]?=some p->¬ p.first<=start):enterN ps n start=n:=by
 unfold enterN
 by_cases hn:n < ps.length
 . rw [List.drop_eq_getElem_cons hn,List.takeWhile_cons]
   have:=h ps[n] (List.getElem?_eq_getElem hn)
   simp [this]
 . rw [List.drop_eq_nil_of_le (by omega)];simp
def insOf (R:Nat) (w:World):Nat:=match w.cell? ⟨R,2,none⟩ with
 | some (.int _ n)=>n.toNat
 | _=>0
structure EnLoop (w wr:World) (d:RunD) (r:RunS) (start:Int) (n:Nat) (cv:Value):Prop where
 mid:RunMid wr { d with cv:=cv } r n (r.ps.take n) (r.ps.take n) (r.ps.take n)
 own:∀ k,cv.ownBlock=some k->d.cv.ownBlock=some k\/w.heap.size<=k
 kept:Kept (fun k=>k=d.R\/partsFoot d.b d.cv d.gv k) w wr
 en:enterN r.ps n start=enterN r.ps r.inside start
theorem take_snoc {p:Pane} (h:ps[n]?=some p):ps.take n++[p]=ps.take (n+1):=by
 have hn:n < ps.length:=(List.getElem?_eq_some_iff.1 h).1
 have e:ps[n]=p:=(List.getElem?_eq_some_iff.1 h).2
 rw [List.take_succ_eq_append_getElem hn,e]
theorem foot_kept {W W':World} {X:Nat->Prop} (hk:Kept (fun k=>k=d.R\/partsFoot d.b d.cv d.gv k) w W) (ho:∀ k,cv.ownBlock=some k->d.cv.ownBlock=some k\/w.heap.size<=k) (h2:Kept X W W') (hX:∀ k,X k->k=d.R\/partsFoot d.b cv d.gv k):Kept (fun k=>k=d.R\/partsFoot d.b d.cv d.gv k) w W':=by
 refine hk.step h2 (fun k hk hx=>?_)
 rcases hX k hx with e | e | e | e
 . exact .inl e
 . exact .inr (.inl e)
 . rcases ho k e with h3 | h3
   . exact .inr (.inr (.inl h3))
   . omega
 . exact .inr (.inr (.inr e))
end Go.Proofs.YtcfngdnmpogaoaaGreat
namespace Go.Proofs.YtcfngdnmpogaoaaGreat
open Go.RowKit Go.MuLone
set_option maxHeartbeats 12800000
set_option maxRecDepth 20000
theorem enterAt_any (d:RunD) (r:RunS) (start:Int) (w:World) (h:RunAt w d r) (hl:r.ps.length<=400000000) :
 Calls Tryz.prog 102 #[.pointer (some ⟨d.R,0,none⟩),.int .i64 start] w fun e w'=>e=.returned (.tuple #[])/\∃ cv',RunAt w' { d with cv:=cv' } { r with inside:=enterN r.ps r.inside start }/\(∀ k,cv'.ownBlock=some k->d.cv.ownBlock=some k\/w.heap.size<=k)/\Kept (fun k=>k=d.R\/partsFoot d.b d.cv d.gv k) w w':=by
 have HS:Hid (EnLoop w w d r start r.inside d.cv):=⟨h.mid,fun k hk=>.inl hk,Kept.refl _ w,rfl⟩
 clear h
 go_enter Tryz.func102,Tryz.ntmps102
 go_wp2_with fail
 go_loopw [5] (fun _ wr=>∃ n cv,EnLoop w wr d r start n cv) (fun _ wr=>r.ps.length - insOf d.R wr)
 case atStart=>exact ⟨_,_,HS.out⟩
 case round=>
  obtain ⟨n,cv,hL⟩:=hrel
  have HL:Hid (EnLoop w wr d r start n cv):=hL
  have hins:=hL.mid.ins
  obtain ⟨r0,r1o,r2,r3,r4,rf⟩:=runAt hL.mid.run
  have HIns:Hid (insOf d.R wr=n):=by show _=_;unfold insOf;rw [r2];simp
  obtain ⟨pa,pc,hpv0,-⟩:=hL.mid.panes.len (by decide)
  rw [List.length_map,Nat.div_one,hL.mid.len] at hpv0
  have hpv:d.pv=.slice pa r.ps.length pc:=hpv0
  clear hpv0
  have r1:wr.cell? ⟨d.R,1,none⟩=some (.slice pa r.ps.length pc):=by rw [<- hpv];exact r1o
  clear r1o
  by_cases hn:n < r.ps.length
  . obtain ⟨P,M,p,pg,po,pc',hP,hp,hpv3,hq,hpa⟩:=hL.mid.pane n hn
    have hpv2:d.pv=.slice (some ⟨pg,po,none⟩) r.ps.length pc':=hpv3
    clear hpv3
    have hpe:=hpv.symm.trans hpv2
    injection hpe with e1 _ e3
    subst e1 e3
    clear hpv2
    obtain ⟨c0,-⟩:=paneAt hpa.pane
    have hni:(n:Int) < (r.ps.length:Int):=by omega
    by_cases hfs:p.first<=start
    . have hd1:decide ((n:Int) < (r.ps.length:Int))=true:=by simpa using hni
      have hd2:decide (p.first<=start)=true:=by simpa using hfs
      have HPv:Hid (d.pv=.slice (some ⟨pg,po,none⟩) r.ps.length pc):=hpv
      have HPn:Hid (∀ (W:World) (v:Value) {p1 p2 p3:List Pane},RunMid W { d with cv:=v } r n p1 p2 p3->W.cell? ⟨pg,po+n,none⟩=some (.pointer (some ⟨P,0,none⟩))):=fun W v p1 p2 p3 hW=>by
       obtain ⟨P',M',p',pg',po',pc',a1,a2,a3,a4,a5⟩:=hW.pane n hn
       have a1:d.Ps[n]?=some (P',M'):=a1
       rw [hP] at a1
       simp only [Option.some.injEq,Prod.mk.injEq] at a1
       have a3:d.pv=.slice (some ⟨pg',po',none⟩) r.ps.length pc':=a3
       have a6:=hpv.symm.trans a3
       injection a6 with a7 _ _
       simp only [Option.some.injEq,Addr.mk.injEq] at a7
       rw [a1.1,a7.1,a7.2.1];exact a4
      have HPa:Hid (∀ (W:World) (v:Value) {p1 p2 p3:List Pane},RunMid W { d with cv:=v } r n p1 p2 p3->PaneAt W P M p):=fun W v p1 p2 p3 hW=>hW.each n P M p hP hp
      have hMb:M ≠ d.b+2:=hL.mid.tcM (P,M) (List.mem_of_getElem? hP)
      clear hL hpa hpv
      have na0:∀ W:World,(nilAhead 396 212 (.pointer (some ⟨d.b,0,none⟩)) "sill/sill.enter").run Tryz.prog W=.ok (some false) W:=fun _=>by kernel_rfl
      have me0:∀ W:World,(method 396 212 (.pointer (some ⟨d.b,0,none⟩)) "sill/sill.enter").run Tryz.prog W=.ok (207,(.pointer (some ⟨d.b,0,none⟩))) W:=fun _=>by kernel_rfl
      have ec0:=enterTEA
      have na1:∀ W:World,(nilAhead 396 215 (.pointer (some ⟨d.b+1,0,none⟩)) "sill/sill.enter").run Tryz.prog W=.ok (some false) W:=fun _=>by kernel_rfl
      have me1:∀ W:World,(method 396 215 (.pointer (some ⟨d.b+1,0,none⟩)) "sill/sill.enter").run Tryz.prog W=.ok (209,(.pointer (some ⟨d.b+1,0,none⟩))) W:=fun _=>by kernel_rfl
      have ec1:=enterBEA
      have na2:∀ W:World,(nilAhead 396 218 (.map (some (d.b+2))) "sill/sill.enter").run Tryz.prog W=.ok (some false) W:=fun _=>by kernel_rfl
      have me2:∀ W:World,(method 396 218 (.map (some (d.b+2))) "sill/sill.enter").run Tryz.prog W=.ok (213,(.map (some (d.b+2)))) W:=fun _=>by kernel_rfl
      have ec2:=enterGEA
      go_upto_region 0 with fail
      go_quiet (fail)
      have HW1:Hid (RunMid (wr.drewN nq) { d with cv:=cv } r n (r.ps.take n) (r.ps.take n) (r.ps.take n)):=HL.out.mid.same (by simp)
      have KW1:Hid (Kept (fun k=>k=d.R\/partsFoot d.b d.cv d.gv k) w (wr.drewN nq)):=HL.out.kept.drewN nq
      clear r0 r1 r2 r3 r4 rf hq c0
      generalize wr.drewN nq=W1 at *
      obtain ⟨r0,r1,r2,r3,r4,rf⟩:=runAt HW1.out.run
      have p0:=blkCell HW1.out.parts.all (i:=0) rfl
      go_wp2_with fail
      refine wp_loop_rounds 4 ?_
      rw [rounds_succ]
      go_upto_region 4 with fail
      clear r0 r1 r2 r3 r4 rf p0
      refine wp_region_still_tail 14 (by kernel_rfl) (by kernel_rfl) ?_
      simp only [List.take_succ_cons,List.take_zero,List.drop_succ_cons,List.drop_zero]
      change wpStill Tryz.prog _ W1.drew (fun a'=>wpList Tryz.prog _ _ _ a' W1.drew) _ _
      have HW2:Hid (RunMid W1.drew { d with cv:=cv } r n (r.ps.take n) (r.ps.take n) (r.ps.take n)):=HW1.out.same rfl
      have KW2:Hid (Kept (fun k=>k=d.R\/partsFoot d.b d.cv d.gv k) w W1.drew):=KW1.out.drew
      clear HW1 KW1
      generalize W1.drew=W2 at *
      obtain ⟨r0,r1,r2,r3,r4,rf⟩:=runAt HW2.out.run
      have hq:=HPn.out W2 cv HW2.out
      rw [HPv.out] at r1
      repeat still_step
      refine wpStill_nil ?_
      go_wp2_with fail
      clear r0 r1 r2 r3 r4 rf hq
      refine (mid_enter1 d.b P M p cv d.gv _ _ _ W2 HW2.out.parts (HPa.out W2 cv HW2.out)).mono ?_
      rintro e W3 ⟨rfl,hm3,hk3⟩
      have HW3:Hid (RunMid W3 { d with cv:=cv } r n (r.ps.take n++[p]) (r.ps.take n) (r.ps.take n)):=HW2.out.turn (hk3.mono (fun k _ e=>.inl (by have e:k=d.b:=e;show d.b<=k/\k<=d.b+3;omega))) hm3
      have KW3:Hid (Kept (fun k=>k=d.R\/partsFoot d.b d.cv d.gv k) w W3):=KW2.out.step hk3 (fun k _ e=>.inr (.inl (by have e:k=d.b:=e;show d.b<=k/\k<=d.b+3;omega)))
      clear hm3 hk3 HW2 KW2 na0 me0 ec0
      go_wp2_with fail
      have p1:=blkCell HW3.out.parts.all (i:=1) rfl
      obtain ⟨r0,r1,r2,r3,r4,rf⟩:=runAt HW3.out.run
      rw [rounds_succ]
      go_upto_region 4 with fail
      clear r0 r1 r2 r3 r4 rf p1
      refine wp_region_still_tail 14 (by kernel_rfl) (by kernel_rfl) ?_
      simp only [List.take_succ_cons,List.take_zero,List.drop_succ_cons,List.drop_zero]
      change wpStill Tryz.prog _ W3.drew (fun a'=>wpList Tryz.prog _ _ _ a' W3.drew) _ _
      have HW4:Hid (RunMid W3.drew { d with cv:=cv } r n (r.ps.take n++[p]) (r.ps.take n) (r.ps.take n)):=HW3.out.same rfl
      have KW4:Hid (Kept (fun k=>k=d.R\/partsFoot d.b d.cv d.gv k) w W3.drew):=KW3.out.drew
      clear HW3 KW3
      generalize W3.drew=W4 at *
      obtain ⟨r0,r1,r2,r3,r4,rf⟩:=runAt HW4.out.run
      have hq:=HPn.out W4 cv HW4.out
      rw [HPv.out] at r1
      repeat still_step
      refine wpStill_nil ?_
      go_wp2_with fail
      clear r0 r1 r2 r3 r4 rf hq
      refine (mid_enter2 d.b P M p cv d.gv _ _ _ W4 HW4.out.parts (HPa.out W4 cv HW4.out) (by rw [List.length_take];omega)).mono ?_
      rintro e W5 ⟨rfl,cv',hm5,ho5,hk5⟩
      have HW5:Hid (RunMid W5 { d with cv:=cv' } r n (r.ps.take n++[p]) (r.ps.take n++[p]) (r.ps.take n)):=HW4.out.turn (hk5.mono (fun k _ e=>by rcases e with e | e;(exact .inl (by have e:k=d.b+1:=e;show d.b<=k/\k<=d.b+3;omega));exact .inr (.inl e))) hm5
      have HO5:Hid (∀ k,cv'.ownBlock=some k->d.cv.ownBlock=some k\/w.heap.size<=k):=fun k hk=>by
       rcases ho5 k hk with e | e
       . exact HL.out.own k e
       . have:=KW4.out.size;exact .inr (by omega)
      have KW5:Hid (Kept (fun k=>k=d.R\/partsFoot d.b d.cv d.gv k) w W5):=foot_kept (cv:=cv) KW4.out HL.out.own hk5 (fun k e=>by rcases e with e | e;(exact .inr (.inl (by have e:k=d.b+1:=e;show d.b<=k/\k<=d.b+3;omega)));exact .inr (.inr (.inl e)))
      clear hm5 hk5 ho5 HW4 KW4 na1 me1 ec1
      go_wp2_with fail
      have p2:=blkCell HW5.out.parts.all (i:=2) rfl
      obtain ⟨r0,r1,r2,r3,r4,rf⟩:=runAt HW5.out.run
      rw [rounds_succ]
      go_upto_region 4 with fail
      clear r0 r1 r2 r3 r4 rf p2
      refine wp_region_still_tail 14 (by kernel_rfl) (by kernel_rfl) ?_
      simp only [List.take_succ_cons,List.take_zero,List.drop_succ_cons,List.drop_zero]
      change wpStill Tryz.prog _ W5.drew (fun a'=>wpList Tryz.prog _ _ _ a' W5.drew) _ _
      have HW6:Hid (RunMid W5.drew { d with cv:=cv' } r n (r.ps.take n++[p]) (r.ps.take n++[p]) (r.ps.take n)):=HW5.out.same rfl
      have KW6:Hid (Kept (fun k=>k=d.R\/partsFoot d.b d.cv d.gv k) w W5.drew):=KW5.out.drew
      clear HW5 KW5
      generalize W5.drew=W6 at *
      obtain ⟨r0,r1,r2,r3,r4,rf⟩:=runAt HW6.out.run
      have hq:=HPn.out W6 cv' HW6.out
      rw [HPv.out] at r1
      repeat still_step
      refine wpStill_nil ?_
      go_wp2_with fail
      clear r0 r1 r2 r3 r4 rf hq
      refine (mid_enter3 d.b P M p cv' d.gv _ _ _ W6 HW6.out.parts (HPa.out W6 cv' HW6.out) hMb (by rw [List.length_take];omega)).mono ?_
      rintro e W7 ⟨rfl,hm7,hk7⟩
      have HW7:Hid (RunMid W7 { d with cv:=cv' } r n (r.ps.take n++[p]) (r.ps.take n++[p]) (r.ps.take n++[p])):=HW6.out.turn (hk7.mono (fun k _ e=>.inl (by have e:k=d.b+2:=e;show d.b<=k/\k<=d.b+3;omega))) hm7
      have KW7:Hid (Kept (fun k=>k=d.R\/partsFoot d.b d.cv d.gv k) w W7):=KW6.out.step hk7 (fun k _ e=>.inr (.inl (by have e:k=d.b+2:=e;show d.b<=k/\k<=d.b+3;omega)))
      clear hm7 hk7 HW6 KW6 na2 me2 ec2
      go_wp2_with fail
      rw [rounds_succ]
      obtain ⟨r0,r1,r2,r3,r4,rf⟩:=runAt HW7.out.run
      have Hcast:Hid ((n:Int)+1=((n+1:Nat):Int)):=by show _=_;omega
      go_wp2_with fail
      rw [take_snoc hp] at HW7
      have hR7:{ d with cv:=cv' }.R=d.R:=rfl
      have HW8:Hid (RunMid (W7.setCell ⟨d.R,2,none⟩ (.int .i64 ((n+1:Nat):Int))) { d with cv:=cv' } r (n+1) (r.ps.take (n+1)) (r.ps.take (n+1)) (r.ps.take (n+1))):=HW7.out.moved (by omega)
      have KW8:Hid (Kept (fun k=>k=d.R\/partsFoot d.b d.cv d.gv k) w (W7.setCell ⟨d.R,2,none⟩ (.int .i64 ((n+1:Nat):Int)))):=KW7.out.setCell ⟨d.R,2,none⟩ _ (fun _=>.inl rfl)
      have HI8:Hid (insOf d.R (W7.setCell ⟨d.R,2,none⟩ (.int .i64 ((n+1:Nat):Int)))=n+1):=by
       show _=_
       obtain ⟨-,-,s2,-⟩:=runAt HW8.out.run
       unfold insOf;rw [s2];simp
      clear r0 r1 r2 r3 r4 rf HW7 KW7
      rw [Hcast.out]
      generalize W7.setCell ⟨d.R,2,none⟩ (.int .i64 ((n+1:Nat):Int))=W8 at *
      go_roundw
      case rel=>exact ⟨n+1,cv',HW8.out,HO5.out,KW8.out,(enterN_step hp hfs).trans HL.out.en⟩
      case measure=>rw [HI8.out,HIns.out];omega
    . have hd1:decide ((n:Int) < (r.ps.length:Int))=true:=by simpa using hni
      have hd2:decide (p.first<=start)=false:=by simpa using hfs
      have HEn:Hid (enterN r.ps r.inside start=n):=HL.out.en.symm.trans (enterN_stop (fun p' hp'=>by rw [hp] at hp';cases hp';exact hfs))
      clear hL hpa hpv
      go_upto_region 0 with fail
      go_quiet (fail)
      go_wp2
      go_end0
      rw [HEn.out]
      exact ⟨rfl,cv,(HL.out.mid.same (w':=wr.drewN nq) (by simp)).at,HL.out.own,HL.out.kept.drewN nq⟩
  . have hni:¬ (n:Int) < (r.ps.length:Int):=by omega
    have hd1:decide ((n:Int) < (r.ps.length:Int))=false:=decide_eq_false hni
    have hd3:decide (n < r.ps.length)=false:=decide_eq_false hn
    have hd4:decide (r.ps.length<=n)=true:=decide_eq_true (by omega)
    have HEn:Hid (enterN r.ps r.inside start=n):=HL.out.en.symm.trans (enterN_stop (fun p' hp'=>by have:=(List.getElem?_eq_some_iff.1 hp').1;omega))
    clear hL hpv
    go_upto_region 0 with fail
    go_quiet (fail)
    go_wp2
    go_end0
    rw [HEn.out]
    exact ⟨rfl,cv,(HL.out.mid.same (w':=wr.drewN nq) (by simp)).at,HL.out.own,HL.out.kept.drewN nq⟩
end Go.Proofs.YtcfngdnmpogaoaaGreat
namespace Go.Proofs.YtcfngdnmpogaoaaGreat
open Go.RowKit Go.MuLone
variable {cap g n off:Nat} {e:TypeId} {w:World} {xs:List Value}
theorem enterTLA:∀ (vs:Array Value) (w:World),(callFunc 208 vs).run Tryz.prog w=.ok (.enter 208 vs) w:=enters_of Tryz.func208 (by kernel_rfl) rfl
theorem enterBLA:∀ (vs:Array Value) (w:World),(callFunc 210 vs).run Tryz.prog w=.ok (.enter 210 vs) w:=enters_of Tryz.func210 (by kernel_rfl) rfl
theorem enterGLA:∀ (vs:Array Value) (w:World),(callFunc 214 vs).run Tryz.prog w=.ok (.enter 214 vs) w:=enters_of Tryz.func214 (by kernel_rfl) rfl
def leaveM (r:RunS) (start:Int):Nat:=((r.ps.take r.inside).takeWhile (fun p=>decide (p.last < start))).length
def leaveS (r:RunS) (start:Int):RunS:=⟨r.key,r.ps.drop (leaveM r start),r.inside - leaveM r start,r.next⟩
theorem leaveS_step {key:ByteArray} {p:Pane} {ps:List Pane} {next start:Int} (h:p.last < start):leaveS ⟨key,p :: ps,n+1,next⟩ start=leaveS ⟨key,ps,n,next⟩ start:=by
 unfold leaveS leaveM
 simp only [List.take_succ_cons,List.takeWhile_cons,h,decide_true,if_true,List.length_cons,List.drop_succ_cons,Nat.add_sub_add_right]
theorem leaveS_stop {r:RunS} {start:Int} (h:0 < r.inside->∀ p,r.ps[0]?=some p->¬ p.last < start):leaveS r start=r:=by
 have hm:leaveM r start=0:=by
  unfold leaveM
  obtain ⟨key,ps,n,next⟩:=r
  cases n with
  | zero=>simp
  | succ n=>
    cases ps with
    | nil=>simp
    | cons p ps=>
      have:=h (by simp) p rfl
      simp [this]
 unfold leaveS
 rw [hm];rfl
theorem rowTail {x:Value} (h:Row w e 1 (.slice (some ⟨g,off,none⟩) (n+1) cap) (x :: xs)):Row w e 1 (.slice (some ⟨g,off+1,none⟩) n (cap - 1)) xs/\n+1<=cap:=by
 rcases h with ⟨h1,_⟩ | ⟨ge,o,k,c,cur,h1,hg,h3,h4,h5,h6,h7⟩
 . cases h1
 . cases h1
   simp only [Nat.mul_one,List.length_cons] at h5 h6 h7
   refine ⟨.inr ⟨g,off+1,n,cap - 1,cur,rfl,hg,by omega,by omega,by simp only [Nat.mul_one];omega,by simp only [Nat.mul_one];omega,fun j hj=>?_⟩,h3⟩
   have:=h7 (j+1) (by simp only [Nat.mul_one] at hj;omega)
   rw [List.getElem?_cons_succ] at this
   rw [<- this,Nat.add_assoc,Nat.add_comm 1 j]
theorem rowAhead {i:Nat} {u:Value} (h:Row w e 1 (.slice (some ⟨g,off,none⟩) n cap) xs) (hi:i < off):Row (w.setCell ⟨g,i,none⟩ u) e 1 (.slice (some ⟨g,off,none⟩) n cap) xs:=by
 rcases h with ⟨h1,_⟩ | ⟨ge,o,k,c,cur,h1,hg,h3,h4,h5,h6,h7⟩
 . cases h1
 . cases h1
   refine .inr ⟨g,off,n,cap,_,rfl,heap_setCell_same w g i _ _ u hg,h3,h4,by simpa using h5,h6,fun j hj=>?_⟩
   rw [<- h7 j hj,Array.getElem?_setIfInBounds]
   rw [if_neg (by omega)]
def cutV (g off n cap:Nat):Value:=.slice (if cap=1 then some ⟨g,off,none⟩ else some ⟨g,off+1,none⟩) n (cap - 1)
theorem cutV_own (g off n cap:Nat):(cutV g off n cap).ownBlock=some g:=by
 unfold cutV
 split <;> rfl
theorem rowCut {x u:Value} (h:Row w e 1 (.slice (some ⟨g,off,none⟩) (n+1) cap) (x :: xs)):Row (w.setCell ⟨g,off,none⟩ u) e 1 (cutV g off n cap) xs/\n+1<=cap:=by
 obtain ⟨ht,hc⟩:=rowTail h
 refine ⟨?_,hc⟩
 unfold cutV
 by_cases h1:cap=1
 . subst h1
   have hn:n=0:=by omega
   subst hn
   rcases h with ⟨h2,_⟩ | ⟨ge,o,k,c,cur,h2,hg,h3,h4,h5,h6,h7⟩
   . cases h2
   . cases h2
     have hx:xs=[]:=by
      simp only [List.length_cons,Nat.mul_one] at h6
      exact List.eq_nil_of_length_eq_zero (by omega)
     subst hx
     rw [if_pos rfl]
     refine .inr ⟨g,off,0,0,_,rfl,heap_setCell_same w g off _ _ u hg,Nat.le_refl _,Nat.zero_le _,?_,rfl,fun j hj=>by omega⟩
     simp only [Array.size_setIfInBounds];omega
 . rw [if_neg h1]
   exact rowAhead ht (Nat.lt_succ_self _)
theorem RunMid.shift {d:RunD} {key:ByteArray} {next:Int} {p:Pane} {ps:List Pane} {pg po len pc:Nat} {x:Nat × Nat} {Ps:List (Nat × Nat)} {ins:Nat} (h:RunMid w d ⟨key,p :: ps,ins,next⟩ (n+1) (ps.take n) (ps.take n) (ps.take n)) (hPs:d.Ps=x :: Ps) (hpv:d.pv=.slice (some ⟨pg,po,none⟩) (len+1) pc) :
 RunAt (((w.setCell ⟨pg,po,none⟩ (.pointer none)).setCell ⟨d.R,1,none⟩ (cutV pg po len pc)).setCell ⟨d.R,2,none⟩ (.int .i64 (n:Int))) { d with pv:=cutV pg po len pc,Ps:=Ps } ⟨key,ps,n,next⟩:=by
 have hrow:=h.panes
 rw [hPs,hpv,List.map_cons] at hrow
 obtain ⟨ht,hcap⟩:=rowCut (u:=.pointer none) hrow
 have hpgR:=((hrow.cb (k:=pg) rfl)).ne (Cb.of h.run) (by decide)
 have hR1:(w.setCell ⟨pg,po,none⟩ (.pointer none)).heap[d.R]?=some (.cells (runCells key d.pv ((n+1:Nat):Int) next (.slice (some ⟨d.b+3,0,none⟩) 3 3)) 178 (0,0)):=(heap_setCell_other _ _ _ _ (fun e=>hpgR e.symm)).trans h.run
 have hR2:=blkPut hR1 1 (cutV pg po len pc)
 have hR3:=blkPut hR2 2 (.int .i64 (n:Int))
 have hoth:∀ k,k ≠ d.R->k ≠ pg->(((w.setCell ⟨pg,po,none⟩ (.pointer none)).setCell ⟨d.R,1,none⟩ (cutV pg po len pc)).setCell ⟨d.R,2,none⟩ (.int .i64 (n:Int))).heap[k]?=w.heap[k]?:=fun k h1 h2=>by
  rw [heap_setCell_other _ _ _ _ h1,heap_setCell_other _ _ _ _ h1,heap_setCell_other _ _ _ _ h2]
 have hlen:=h.len
 rw [hPs] at hlen
 simp only [List.length_cons] at hlen
 have hnodP:=h.nodP
 have hnodM:=h.nodM
 rw [hPs,List.map_cons,List.nodup_cons] at hnodP hnodM
 have hins:=h.ins
 simp only [List.length_cons] at hins
 refine ⟨hR3,?_,by show Ps.length=ps.length;omega,fun i P M q h1 h2=>?_,hnodP.2,hnodM.2,fun q hq=>h.tcM q (by rw [hPs];exact List.mem_cons_of_mem _ hq),by show n<=ps.length;omega,(h.parts.congr (fun k hk=>hoth k (fun e=>?_) (fun e=>?_))).at⟩
 . exact (ht.setCell _ _ (by rw [cutV_own];simp;exact hpgR)).setCell _ _ (by rw [cutV_own];simp;exact hpgR)
 . have hpa:=h.each (i+1) P M q (by rw [hPs,List.getElem?_cons_succ];exact h1) (by simp only [List.getElem?_cons_succ];exact h2)
   exact hpa.congr (hoth P ((Cb.of hpa.pane).ne (Cb.of h.run) (by decide)) ((Cb.of hpa.pane).ne (hrow.cb (k:=pg) rfl) (by decide))) (hoth M (fun e=>(Cb.of h.run).neM hpa.tags.mb e.symm) (fun e=>(hrow.cb (k:=pg) rfl).neM hpa.tags.mb e.symm))
 . subst e
   exact h.parts.not (Cb.of h.run) (by decide) (by decide) (by decide) (by decide) hk
 . subst e
   exact h.parts.not (hrow.cb (k:=k) rfl) (by decide) (by decide) (by decide) (by decide) hk
end Go.Proofs.YtcfngdnmpogaoaaGreat
