import Derived.Test.YtcfngdnmpogaoaaGreatTkT27
namespace Go.Proofs.YtcfngdnmpogaoaaGreat
open Go.RowKit
variable {T:Option Int} {key:ByteArray} {s:Int} {x:Win}
theorem runS_evs (q:List Pane) (hf:Fits (evsOf q)):runS (q.map Pane.span)=(loV (evsOf q),hiV (evsOf q)):=by
 induction q using snoc_ind with
 | nil=>rfl
 | snoc q p ih=>
   have he:evsOf (q++[p])=evsOf q++p.evs:=by rw [evsOf_append];simp [evsOf]
   rw [he] at hf ⊢
   have hf1:Fits (evsOf q):=fun e h=>hf e (List.mem_append_left _ h)
   rw [List.map_append,List.map_cons,List.map_nil,runS_snoc,ih hf1,loV_append _ _ hf1,hiV_append _ _ hf1]
   rfl
theorem tagN_pos (q:List Pane) (t:Nat):0 < tagN q (t:Int) ↔ ∃ e ∈ evsOf q,e.tag=t:=by
 unfold tagN hasTag evsOf
 rw [List.length_pos_iff_exists_mem]
 constructor
 . rintro ⟨p,hp⟩
   obtain ⟨h1,h2⟩:=List.mem_filter.1 hp
   obtain ⟨e,he,h3⟩:=List.any_eq_true.1 h2
   have h4:=of_decide_eq_true h3
   exact ⟨e,List.mem_flatMap.2 ⟨p,h1,he⟩,by omega⟩
 . rintro ⟨e,he,h3⟩
   obtain ⟨p,h1,h2⟩:=List.mem_flatMap.1 he
   exact ⟨p,List.mem_filter.2 ⟨h1,List.any_eq_true.2 ⟨e,h2,decide_eq_true (by omega)⟩⟩⟩
theorem Told.is {q:List Pane} (h:Told q key s x) (hf:Fits (evsOf q)) (hl:(evsOf q).length < 9223372036854775807):WinIs x key s (evsOf q):=by
 have hr:=runS_evs q hf
 refine ⟨h.key,h.start,?_,h.sum,fun _=>by rw [h.lo,hr],fun _=>by rw [h.hi,hr],h.rise,fun t=>by rw [h.tags,tagN_pos]⟩
 rw [h.cnt]
 unfold cntV wrap64
 omega
theorem WinIs.perm {W W':List Ev} (h:WinIs x key s W) (hp:W.Perm W') (hf:Fits W):WinIs x key s W':=by
 have hne:W' ≠ []->W ≠ []:=fun h0 e=>h0 (by subst e;exact hp.nil_eq.symm)
 refine ⟨h.key,h.start,by rw [h.cnt,hp.length_eq],by rw [h.sum,sumV_perm hp],fun h0=>by rw [h.lo (hne h0),loV_perm hp hf],fun h0=>by rw [h.hi (hne h0),hiV_perm hp hf],h.rise,fun t=>?_⟩
 rw [h.tags]
 exact ⟨fun ⟨e,he,ht⟩=>⟨e,hp.mem_iff.1 he,ht⟩,fun ⟨e,he,ht⟩=>⟨e,hp.mem_iff.2 he,ht⟩⟩
theorem WinIs.uniq {y:Win} {W:List Ev} (h:WinIs x key s W) (h':WinIs y key s W) (h0:W ≠ []):x=y:=by
 have ht:x.tags=y.tags:=rising_uniq _ _ h.rise h'.rise (fun t=>by rw [h.tags,h'.tags])
 obtain ⟨x1,x2,x3,x4,x5,x6,x7⟩:=x
 obtain ⟨y1,y2,y3,y4,y5,y6,y7⟩:=y
 have e1:=h.key.trans h'.key.symm
 have e2:=h.start.trans h'.start.symm
 have e3:=h.cnt.trans h'.cnt.symm
 have e4:=h.sum.trans h'.sum.symm
 have e5:=(h.lo h0).trans (h'.lo h0).symm
 have e6:=(h.hi h0).trans (h'.hi h0).symm
 simp only at e1 e2 e3 e4 e5 e6 ht
 subst e1;subst e2;subst e3;subst e4;subst e5;subst e6;subst ht
 rfl
theorem in_iff (size slide t s:Int) (h1:1<=slide) (hd:slide ∣ s):(s<=t/\t < s+size) ↔ (winFirst size slide t<=s/\s<=winLast slide t):=by
 unfold winFirst winLast
 obtain ⟨a1,a2⟩:=down_le (t - size) slide h1
 obtain ⟨b1,b2⟩:=down_le t slide h1
 constructor
 . rintro ⟨h3,h4⟩
   refine ⟨mul_gap _ _ slide h1 (down_dvd _ _) hd (by omega),?_⟩
   refine Int.not_lt.1 (fun hlt=>?_)
   have:=mul_gap _ _ slide h1 (down_dvd _ _) hd hlt
   omega
 . rintro ⟨h3,h4⟩
   omega
theorem inWin_iff (key:ByteArray) (s size:Int) (e:Ev):inWin key s size e=true ↔ e.key=key/\s<=e.t/\e.t < s+size:=by
 unfold inWin
 rw [Bool.and_eq_true,Bool.and_eq_true,keyEq_iff,decide_eq_true_iff,decide_eq_true_iff]
 constructor
 . rintro ⟨a,b,c⟩;exact ⟨a,b,by omega⟩
 . rintro ⟨a,b,c⟩;exact ⟨a,b,by omega⟩
theorem toldB_mono {x y:Int} (h:toldB T x=false) (hxy:x<=y):toldB T y=false:=by
 cases T with
 | none=>rfl
 | some t=>
   have h1:decide (x<=t)=false:=h
   have h2:=of_decide_eq_false h1
   exact decide_eq_false (by omega)
theorem evsOf_filter (f:Ev->Bool) (g:Pane->Bool) (ps:List Pane) (h:∀ p ∈ ps,∀ e ∈ p.evs,f e=g p):evsOf (ps.filter g)=(evsOf ps).filter f:=by
 induction ps with
 | nil=>rfl
 | cons p ps ih=>
   have ih:=ih (fun q hq=>h q (List.mem_cons_of_mem _ hq))
   have hp:=h p (List.mem_cons_self ..)
   rw [evsOf_cons,List.filter_append,<- ih,List.filter_cons]
   cases hg:g p with
   | true=>
     have h2:p.evs.filter f=p.evs:=List.filter_eq_self.2 (fun e he=>by rw [hp e he,hg])
     rw [if_pos rfl,evsOf_cons,h2]
   | false=>
     have h2:p.evs.filter f=[]:=List.filter_eq_nil_iff.2 (fun e he=>by rw [hp e he,hg];simp)
     rw [if_neg (by simp),h2,List.nil_append]
theorem runEvs_none (f:Ev->Bool) (rs:List RunS) (h:∀ r ∈ rs,∀ p ∈ r.ps,∀ e ∈ p.evs,f e=false):(runEvs rs).filter f=[]:=by
 refine List.filter_eq_nil_iff.2 (fun e he=>?_)
 unfold runEvs evsOf at he
 obtain ⟨r,hr,he⟩:=List.mem_flatMap.1 he
 obtain ⟨p,hp,he⟩:=List.mem_flatMap.1 he
 rw [h r hr p hp e he];simp
theorem Mod.win {st:St} {E:List Ev} (h:Mod st E T) {r:RunS} (hr:r ∈ st.es++st.gs) {s:Int} (hd:st.slide ∣ s) (hT:toldB T (s+st.size)=false) (hp:∃ p ∈ r.ps,p.first<=s/\s<=p.last) :
 (evsOf (inPanes r.ps s)).Perm (E.filter (inWin r.key s st.size)):=by
 have h1:=h.conf.s1
 have hu:E.filter (inWin r.key s st.size)=(untold T st.size st.slide E).filter (inWin r.key s st.size):=by
  unfold untold
  rw [List.filter_filter]
  refine List.filter_congr (fun e _=>?_)
  cases hin:inWin r.key s st.size e with
  | false=>simp
  | true=>
    obtain ⟨_,k2,k3⟩:=(inWin_iff _ _ _ _).1 hin
    obtain ⟨_,k4⟩:=(in_iff st.size st.slide e.t s h1 hd).1 ⟨k2,k3⟩
    rw [toldB_mono hT (show s+st.size<=winLast st.slide e.t+st.size by omega)];rfl
 rw [hu]
 refine List.Perm.trans ?_ (h.perm.filter _)
 have hev:∀ r' ∈ st.es++st.gs,∀ p ∈ r'.ps,∀ e ∈ p.evs,inWin r.key s st.size e=(keyEq r'.key r.key && (decide (p.first<=s) && decide (s<=p.last))):=fun r' hr' p hp e he=>by
  obtain ⟨k1,k2,k3⟩:=((h.good r' hr').pane p hp).2 e he
  rw [Bool.eq_iff_iff,inWin_iff,in_iff st.size st.slide e.t s h1 hd,k1,k2,k3,Bool.and_eq_true,Bool.and_eq_true,keyEq_iff,decide_eq_true_iff,decide_eq_true_iff]
 obtain ⟨a,b,hab⟩:=List.append_of_mem hr
 obtain ⟨p,hpm,hp1,hp2⟩:=hp
 have ho:=h.order
 rw [hab] at ho hev ⊢
 obtain ⟨_,o2,o3⟩:=List.pairwise_append.1 ho
 obtain ⟨o4,_⟩:=List.pairwise_cons.1 o2
 have hself:keyEq r.key r.key=true:=(keyEq_iff _ _).2 rfl
 have hno:∀ r' ∈ a++b,∀ q ∈ r'.ps,∀ e ∈ q.evs,inWin r.key s st.size e=false:=fun r' hr' q hq e he=>by
  have hm:r' ∈ a++r :: b:=by
   rcases List.mem_append.1 hr' with h | h
   . exact List.mem_append_left _ h
   . exact List.mem_append_right _ (List.mem_cons_of_mem _ h)
  rw [hev r' hm q hq e he]
  cases hk:keyEq r'.key r.key with
  | false=>rfl
  | true=>
    have hk:=(keyEq_iff _ _).1 hk
    rw [Bool.true_and]
    by_cases h3:q.first<=s
    . by_cases h4:s<=q.last
      . rcases List.mem_append.1 hr' with h | h
        . have:=o3 r' h r (List.mem_cons_self ..) hk q hq p hpm;omega
        . have:=o4 r' h hk.symm p hpm q hq;omega
      . rw [decide_eq_false h4,Bool.and_false]
    . rw [decide_eq_false h3,Bool.false_and]
 rw [runEvs_append,runEvs_cons,List.filter_append,List.filter_append,runEvs_none _ a (fun r' hr'=>hno r' (List.mem_append_left _ hr')),runEvs_none _ b (fun r' hr'=>hno r' (List.mem_append_right _ hr')),List.nil_append,List.append_nil]
 unfold inPanes
 rw [evsOf_filter (inWin r.key s st.size) _ r.ps (fun q hq e he=>by rw [hev r (List.mem_append_right _ (List.mem_cons_self ..)) q hq e he,hself,Bool.true_and])]
theorem Mod.told_win {st:St} {E:List Ev} (h:Mod st E T) {r:RunS} (hr:r ∈ st.es++st.gs) {s:Int} (hd:st.slide ∣ s) (hT:toldB T (s+st.size)=false) (hp:∃ p ∈ r.ps,p.first<=s/\s<=p.last) (hE:E.length < 9223372036854775807) {x:Win} (hx:Told (inPanes r.ps s) r.key s x):x=winF r.key s st.size E:=by
 have hperm:=h.win hr hd hT hp
 have hfE:Fits E:=fun e he=>(h.evs e he).1
 have hfW:Fits (E.filter (inWin r.key s st.size)):=fun e he=>hfE e (List.mem_filter.1 he).1
 have hfq:=hfW.perm hperm.symm
 have hlen:(evsOf (inPanes r.ps s)).length<=E.length:=by rw [hperm.length_eq];exact List.length_filter_le _ _
 refine ((hx.is hfq (by omega)).perm hperm hfq).uniq (winF_is r.key s st.size E hfE) ?_
 obtain ⟨p,hpm,hp1,hp2⟩:=hp
 obtain ⟨e,he⟩:=List.exists_mem_of_ne_nil _ ((h.good r hr).pane p hpm).1
 have hmem:e ∈ evsOf (inPanes r.ps s):=List.mem_flatMap.2 ⟨p,List.mem_filter.2 ⟨hpm,by rw [decide_eq_true hp1,decide_eq_true hp2];rfl⟩,he⟩
 exact List.ne_nil_of_mem (hperm.mem_iff.1 hmem)
end Go.Proofs.YtcfngdnmpogaoaaGreat
namespace Go.Proofs.YtcfngdnmpogaoaaGreat
open Go.RowKit
variable {E:List Ev} {T:Option Int} {st:St}
def slidR (st:St) (r:RunS):RunS × List (Int × List Pane):=slideF st.size st.slide st.lt (leftS st.lt r+1) r []
def outW (st:St) (E:List Ev) (r:RunS):List Win:=(slidR st r).2.map fun v=>winF r.key v.1 st.size E
def outAll (st:St) (E:List Ev) (rs:List RunS):List Win:=rs.flatMap (outW st E)
def St.taken (st:St):St:={ st with es:=[],gs:=st.gs.map fun r=>(slidR st r).1 }
structure SlidAll (st:St) (T:Option Int) (r:RunS):Prop where
 out:Slid3 st.size st.slide T st.lt r.ps (slidR st r).2
 virt:RunVirt st.size st.slide (some st.lt) (slidR st r).1
 ps:(slidR st r).1.ps=r.ps.filter (fun p=>decide (st.lt < p.last+st.size))
 key:(slidR st r).1.key=r.key
theorem Mod.slid (h:Mod st E T) {r:RunS} (hr:r ∈ st.es++st.gs):SlidAll st T r:=by
 obtain ⟨vs,h1,h2,h3,h4,h5⟩:=slideF_spec st.size st.slide st.lt h.conf.s1 h.conf.s2 (leftS st.lt r+1) r T [] (h.good r hr).virt (Nat.lt_succ_self _) (fun t ht=>(h.told t ht).2)
 have h6:(slidR st r).2=vs:=h1
 exact ⟨by rw [h6];exact h2,h3,h4,h5⟩
theorem Mod.outW_of (h:Mod st E T) {r:RunS} (hr:r ∈ st.es++st.gs) (hE:E.length < 9223372036854775807) {xs:List Win} (hl:xs.length=(slidR st r).2.length) (hx:∀ (i:Nat) x s,xs[i]?=some x->(slidR st r).2[i]?=some s->Told s.2 r.key s.1 x):xs=outW st E r:=by
 refine List.ext_getElem? (fun i=>?_)
 unfold outW
 rw [List.getElem?_map]
 by_cases hi:i < xs.length
 . have hi2:i < (slidR st r).2.length:=by omega
   have h1:xs[i]?=some xs[i]:=List.getElem?_eq_getElem hi
   have h2:(slidR st r).2[i]?=some (slidR st r).2[i]:=List.getElem?_eq_getElem hi2
   have h3:=hx i _ _ h1 h2
   obtain ⟨s1,s2,_,s4,s5⟩:=(h.slid hr).out.sound _ (List.getElem_mem hi2)
   rw [s5] at h3
   rw [h1,h2,Option.map_some,h.told_win hr s1 s2 s4 hE h3]
 . rw [List.getElem?_eq_none (by omega),List.getElem?_eq_none (by omega)];rfl
theorem mem_runEvs (rs:List RunS) (e:Ev):e ∈ runEvs rs ↔ ∃ r ∈ rs,∃ p ∈ r.ps,e ∈ p.evs:=by
 unfold runEvs evsOf
 simp only [List.mem_flatMap]
theorem Mod.out_mem (h:Mod st E T) (hli:st.li=true) (y:Win):y ∈ outAll st E (st.es++st.gs) ↔ ∃ key s,winP st.size st.slide T st.lt st.li E key s/\y=winF key s st.size E:=by
 have h1:=h.conf.s1
 unfold outAll
 rw [List.mem_flatMap]
 constructor
 . rintro ⟨r,hr,hy⟩
   unfold outW at hy
   obtain ⟨v,hv,rfl⟩:=List.mem_map.1 hy
   obtain ⟨s1,s2,s3,⟨p,hp,hp1,hp2⟩,_⟩:=(h.slid hr).out.sound v hv
   obtain ⟨hne,hev⟩:=(h.good r hr).pane p hp
   obtain ⟨e,he⟩:=List.exists_mem_of_ne_nil _ hne
   obtain ⟨k1,k2,k3⟩:=hev e he
   have hE:e ∈ E:=(List.mem_filter.1 (h.perm.mem_iff.1 ((mem_runEvs _ _).2 ⟨r,hr,p,hp,he⟩))).1
   obtain ⟨k4,k5⟩:=(in_iff st.size st.slide e.t v.1 h1 s1).2 ⟨by omega,by omega⟩
   exact ⟨r.key,v.1,⟨hli,⟨e,hE,k1,s1,k4,k5⟩,s3,s2⟩,rfl⟩
 . rintro ⟨key,s,⟨_,⟨e,hE,k1,s1,k4,k5⟩,s3,s2⟩,rfl⟩
   obtain ⟨k6,k7⟩:=(in_iff st.size st.slide e.t s h1 s1).1 ⟨k4,k5⟩
   have hu:e ∈ untold T st.size st.slide E:=List.mem_filter.2 ⟨hE,by rw [toldB_mono s2 (show s+st.size<=winLast st.slide e.t+st.size by omega)];rfl⟩
   obtain ⟨r,hr,p,hp,he⟩:=(mem_runEvs _ _).1 (h.perm.mem_iff.2 hu)
   obtain ⟨m1,m2,m3⟩:=((h.good r hr).pane p hp).2 e he
   obtain ⟨x,hx,hxs⟩:=(h.slid hr).out.full s s1 s2 s3 ⟨p,hp,by omega,by omega⟩
   refine ⟨r,hr,?_⟩
   unfold outW
   exact List.mem_map.2 ⟨x,hx,by rw [hxs,<- m1,k1]⟩
theorem Mod.out_apart (h:Mod st E T):(outAll st E (st.es++st.gs)).Pairwise (fun x y=>¬ (x.start=y.start/\x.key=y.key)):=by
 unfold outAll
 rw [List.pairwise_flatMap]
 constructor
 . intro r hr
   unfold outW
   rw [List.pairwise_map]
   refine (h.slid hr).out.order.imp (fun {a b} hab=>?_)
   rw [(winF_key ..).2,(winF_key ..).2]
   omega
 . have hall:∀ r ∈ st.es++st.gs,SlidAll st T r:=fun r hr=>h.slid hr
   refine List.Pairwise.imp_of_mem (fun {a b} ha hb hab=>?_) h.order
   intro x hx y hy
   unfold outW at hx hy
   obtain ⟨v,hv,rfl⟩:=List.mem_map.1 hx
   obtain ⟨u,hu,rfl⟩:=List.mem_map.1 hy
   rw [(winF_key ..).2,(winF_key ..).2,(winF_key ..).1,(winF_key ..).1]
   rintro ⟨e1,e2⟩
   obtain ⟨_,_,_,⟨p,hp,_,hp2⟩,_⟩:=(hall a ha).out.sound v hv
   obtain ⟨_,_,_,⟨q,hq,hq1,_⟩,_⟩:=(hall b hb).out.sound u hu
   have:=hab e2 p hp q hq
   omega
theorem Mod.void (h:Mod st [] T):st.es=[]/\st.gs=[]:=by
 have h1:=h.perm.eq_nil
 have h2:st.es++st.gs=[]:=by
  cases hr:st.es++st.gs with
  | nil=>rfl
  | cons r rs=>
    have hg:=h.good r (by rw [hr];exact List.mem_cons_self ..)
    obtain ⟨p,hp⟩:=List.exists_mem_of_ne_nil _ hg.ne
    obtain ⟨e,he⟩:=List.exists_mem_of_ne_nil _ (hg.pane p hp).1
    have:e ∈ runEvs (st.es++st.gs):=(mem_runEvs _ _).2 ⟨r,by rw [hr];exact List.mem_cons_self ..,p,hp,he⟩
    rw [h1] at this;cases this
 exact List.append_eq_nil_iff.1 h2
theorem Mod.taken (h:Mod st E T) (hli:st.li=true):Mod st.taken E (some st.lt):=by
 have hsl:∀ r ∈ st.gs,SlidAll st T r:=fun r hr=>h.slid (List.mem_append_right _ hr)
 have hrem:∀ x:Int,toldB (some st.lt) x=decide (x<=st.lt):=fun x=>rfl
 refine ⟨⟨h.conf.s1,h.conf.s2,h.conf.s3,h.conf.l1,h.conf.l2,h.conf.k1,h.conf.k2⟩,?_,?_,?_,?_,?_,?_,fun r hr=>(by cases hr),fun t ht=>⟨hli,by cases ht;exact Int.le_refl _⟩,h.evs⟩
 . show ((st.gs.map fun r=>(slidR st r).1).map RunS.key).Nodup
   rw [List.map_map]
   have:st.gs.map (RunS.key ∘ fun r=>(slidR st r).1)=st.gs.map RunS.key:=List.map_congr_left (fun r hr=>(hsl r hr).key)
   rw [this];exact h.gsK
 . show ((st.gs.map fun r=>(slidR st r).1).length:Int)<=st.keys
   rw [List.length_map];exact h.gsLen
 . show ∀ r ∈ []++st.gs.map (fun r=>(slidR st r).1),RunGood st.size st.slide (some st.lt) r
   rw [List.nil_append]
   intro r' hr'
   obtain ⟨r,hr,rfl⟩:=List.mem_map.1 hr'
   obtain ⟨_,hv,hps,_⟩:=hsl r hr
   refine ⟨?_,hv.sorted,hv.pane,hv.rem,hv.ins,hv.insLe,hv.nxt⟩
   obtain ⟨p,hp,hu⟩:=h.gsU r hr
   rw [hps]
   refine List.ne_nil_of_mem (List.mem_filter.2 ⟨hp,decide_eq_true ?_⟩)
   rcases hu with hu | hu
   . rw [hli] at hu;cases hu
   . exact hu
 . show (runEvs ([]++st.gs.map fun r=>(slidR st r).1)).Perm (untold (some st.lt) st.size st.slide E)
   have e1:untold (some st.lt) st.size st.slide E=(untold T st.size st.slide E).filter (fun e=>!decide (winLast st.slide e.t+st.size<=st.lt)):=by
    unfold untold
    rw [List.filter_filter]
    refine List.filter_congr (fun e _=>?_)
    rw [hrem]
    cases hd:decide (winLast st.slide e.t+st.size<=st.lt) with
    | true=>rfl
    | false=>
      have hd:=of_decide_eq_false hd
      cases hT:T with
      | none=>rfl
      | some t=>
        have:=(h.told t hT).2
        have h5:decide (winLast st.slide e.t+st.size<=t)=false:=decide_eq_false (by omega)
        show _=(_ && !decide (winLast st.slide e.t+st.size<=t))
        rw [h5];rfl
   rw [e1]
   refine List.Perm.trans ?_ (h.perm.filter _)
   rw [runEvs_append st.es,List.filter_append,runEvs_none _ st.es (fun r hr p hp e he=>by
    obtain ⟨_,_,k3⟩:=((h.good r (List.mem_append_left _ hr)).pane p hp).2 e he
    have:=(h.esF r hr).2 p hp
    rw [k3,decide_eq_true this];rfl),List.nil_append,List.nil_append]
   have hgen:∀ gs:List RunS,(∀ r ∈ gs,r ∈ st.gs)->runEvs (gs.map fun r=>(slidR st r).1)=(runEvs gs).filter (fun e=>!decide (winLast st.slide e.t+st.size<=st.lt)):=by
    intro gs
    induction gs with
    | nil=>intro _;rfl
    | cons r gs ih=>
      intro hm
      have hr:=hm r (List.mem_cons_self ..)
      rw [List.map_cons,runEvs_cons,runEvs_cons,List.filter_append,ih (fun q hq=>hm q (List.mem_cons_of_mem _ hq)),(hsl r hr).ps]
      rw [evsOf_filter (fun e=>!decide (winLast st.slide e.t+st.size<=st.lt)) _ r.ps (fun p hp e he=>?_)]
      obtain ⟨_,_,k3⟩:=((h.good r (List.mem_append_right _ hr)).pane p hp).2 e he
      rw [k3,<- decide_not]
      exact decide_eq_decide.2 (by omega)
   rw [hgen st.gs (fun r hr=>hr)]
 . show ([]++st.gs.map fun r=>(slidR st r).1).Pairwise RunLt
   rw [List.nil_append,List.pairwise_map]
   have ho:=(List.pairwise_append.1 h.order).2.1
   refine List.Pairwise.imp_of_mem (fun {a b} ha hb hab=>?_) ho
   intro hk p hp q hq
   rw [(hsl a ha).key,(hsl b hb).key] at hk
   rw [(hsl a ha).ps] at hp
   rw [(hsl b hb).ps] at hq
   exact hab hk p (List.mem_filter.1 hp).1 q (List.mem_filter.1 hq).1
 . intro r' hr'
   obtain ⟨r,hr,rfl⟩:=List.mem_map.1 hr'
   obtain ⟨p,hp,hu⟩:=h.gsU r hr
   refine ⟨p,?_,hu⟩
   rw [(hsl r hr).ps]
   refine List.mem_filter.2 ⟨hp,decide_eq_true ?_⟩
   rcases hu with hu | hu
   . rw [hli] at hu;cases hu
   . exact hu
theorem Mod.sorted (h:Mod st E T) (hli:E ≠ []->st.li=true) {ys:List Win} (hp:ys.Perm (outAll st E (st.es++st.gs))) (ho:ys.Pairwise (fun x y=>¬ ltW y x)):DoneOk st.size st.slide T st.lt st.li E ys:=by
 by_cases hE:E=[]
 . subst hE
   obtain ⟨h1,h2⟩:=h.void
   rw [h1,h2] at hp
   have:ys=[]:=hp.eq_nil
   subst this
   refine ⟨List.Pairwise.nil,fun x=>⟨fun hx=>(by cases hx),?_⟩⟩
   rintro ⟨k,s,⟨_,⟨e,he,_⟩,_⟩,_⟩
   cases he
 . have hl:=hli hE
   refine ⟨?_,fun x=>by rw [hp.mem_iff];exact h.out_mem hl x⟩
   have ha:=(hp.pairwise_iff (fun {x y} hxy hyx=>hxy ⟨hyx.1.symm,hyx.2.symm⟩)).2 h.out_apart
   refine List.Pairwise.imp (fun {x y} hxy=>?_) (ho.and ha)
   exact Classical.not_not.1 (fun hn=>hxy.2 (ltW_total hn hxy.1))
end Go.Proofs.YtcfngdnmpogaoaaGreat
