import Derived.Test.YtcfngdnmpogaoaaGreatTkT21
namespace Go.Proofs.YtcfngdnmpogaoaaGreat
open Go.RowKit
structure SrcS where
 opened:Bool
 broken:Bool
 time:Int
 is:Bool
structure St where
 size:Int
 slide:Int
 late:Int
 keys:Int
 src:List SrcS
 lt:Int
 li:Bool
 gs:List RunS
 es:List RunS
 n:RCounts
def srcS (s:SSrc):SrcS:=⟨s.opened,s.broken,s.time,s.is⟩
def stOf (r:SCells) (gs es:List RunX):St:=⟨r.size,r.slide,r.late,r.keys,r.src.map srcS,r.lt,r.li,rsOf gs,rsOf es,r.n⟩
def toldB (T:Option Int) (x:Int):Bool:=match T with
 | some t=>decide (x<=t)
 | none=>false
theorem down_le (t n:Int) (hn:1<=n):down t n<=t/\t < down t n+n:=by
 unfold down
 have:=Int.emod_nonneg t (show n ≠ 0 by omega)
 have:=Int.emod_lt_of_pos t (show 0 < n by omega)
 omega
theorem down_mono (s t n:Int) (hn:1<=n) (h:s<=t):down s n<=down t n:=by
 unfold down
 have e1:=Int.mul_ediv_add_emod s n
 have e2:=Int.mul_ediv_add_emod t n
 have:s / n<=t / n:=Int.ediv_le_ediv (by omega) h
 have:=Int.mul_le_mul_of_nonneg_left this (show 0<=n by omega)
 omega
theorem down_dvd (t n:Int):n ∣ down t n:=by
 unfold down
 have e2:=Int.mul_ediv_add_emod t n
 exact ⟨t / n,by omega⟩
theorem mul_gap (a b n:Int) (hn:1<=n) (ha:n ∣ a) (hb:n ∣ b) (h:a < b):a+n<=b:=by
 obtain ⟨x,rfl⟩:=ha
 obtain ⟨y,rfl⟩:=hb
 have hxy:x < y:=by
  refine Int.lt_of_not_ge (fun hge=>?_)
  have:=Int.mul_le_mul_of_nonneg_left hge (show 0<=n by omega)
  omega
 have:=Int.mul_le_mul_of_nonneg_left (show x+1<=y by omega) (show 0<=n by omega)
 rw [Int.mul_add,Int.mul_one] at this
 exact this
theorem winFirst_mono (size slide s t:Int) (hn:1<=slide) (h:s<=t):winFirst size slide s<=winFirst size slide t:=by
 unfold winFirst
 have:=down_mono (s - size) (t - size) slide hn (by omega)
 omega
theorem winLast_mono (slide s t:Int) (hn:1<=slide) (h:s<=t):winLast slide s<=winLast slide t:=down_mono s t slide hn h
theorem winFirst_gt (size slide t:Int) (hn:1<=slide):t < winFirst size slide t+size/\winFirst size slide t+size<=t+slide:=by
 unfold winFirst
 obtain ⟨h1,h2⟩:=down_le (t - size) slide hn
 omega
theorem winLast_le (slide t:Int) (hn:1<=slide):winLast slide t<=t/\t < winLast slide t+slide:=down_le t slide hn
theorem winFirst_le_last (size slide t:Int) (hn:1<=slide) (hs:slide<=size):winFirst size slide t<=winLast slide t:=by
 unfold winFirst winLast
 obtain ⟨h1,h2⟩:=down_le (t - size) slide hn
 obtain ⟨h3,h4⟩:=down_le t slide hn
 by_cases h:down (t - size) slide < down t slide
 . exact mul_gap _ _ slide hn (down_dvd _ _) (down_dvd _ _) h
 . omega
structure RunGood (size slide:Int) (T:Option Int) (r:RunS):Prop where
 ne:r.ps ≠ []
 sorted:Sorted r.ps
 pane:∀ p ∈ r.ps,p.evs ≠ []/\∀ e ∈ p.evs,e.key=r.key/\winFirst size slide e.t=p.first/\winLast slide e.t=p.last
 rem:∀ p ∈ r.ps,toldB T (p.last+size)=false
 ins:∀ (i:Nat) p,r.ps[i]?=some p->(i < r.inside ↔ toldB T (p.first+size)=true)
 insLe:r.inside<=r.ps.length
 nxt:0 < r.inside->∀ t,T=some t->r.next=down (t - size) slide+slide
structure ConfOk (st:St):Prop where
 s1:1<=st.slide
 s2:st.slide<=st.size
 s3:st.size<=1099511627776
 l1:0<=st.late
 l2:st.late<=1099511627776
 k1:1<=st.keys
 k2:st.keys<=16
def runEvs (rs:List RunS):List Ev:=rs.flatMap fun r=>evsOf r.ps
def evOk (e:Ev):Prop:=e.fits/\-2305843009213693952<=e.t/\e.t<=2305843009213693952
def untold (T:Option Int) (size slide:Int) (E:List Ev):List Ev:=E.filter fun e=>!toldB T (winLast slide e.t+size)
def RunLt (r r':RunS):Prop:=r.key=r'.key->∀ p ∈ r.ps,∀ p' ∈ r'.ps,p.last < p'.first
structure Mod (st:St) (E:List Ev) (T:Option Int):Prop where
 conf:ConfOk st
 gsK:(st.gs.map RunS.key).Nodup
 gsLen:(st.gs.length:Int)<=st.keys
 good:∀ r ∈ st.es++st.gs,RunGood st.size st.slide T r
 perm:(runEvs (st.es++st.gs)).Perm (untold T st.size st.slide E)
 order:(st.es++st.gs).Pairwise RunLt
 gsU:∀ r ∈ st.gs,∃ p ∈ r.ps,st.li=false\/st.lt < p.last+st.size
 esF:∀ r ∈ st.es,st.li=true/\∀ p ∈ r.ps,p.last+st.size<=st.lt
 told:∀ t,T=some t->st.li=true/\t<=st.lt
 evs:∀ e ∈ E,evOk e
theorem evsOf_append (a b:List Pane):evsOf (a++b)=evsOf a++evsOf b:=by simp [evsOf]
theorem evsOf_cons (p:Pane) (b:List Pane):evsOf (p :: b)=p.evs++evsOf b:=by simp [evsOf]
theorem runEvs_append (a b:List RunS):runEvs (a++b)=runEvs a++runEvs b:=by simp [runEvs]
theorem runEvs_cons (r:RunS) (b:List RunS):runEvs (r :: b)=evsOf r.ps++runEvs b:=by simp [runEvs]
theorem ps_le_evs (ps:List Pane) (h:∀ p ∈ ps,p.evs ≠ []):ps.length<=(evsOf ps).length:=by
 induction ps with
 | nil=>simp
 | cons p ps ih=>
   rw [evsOf_cons,List.length_append,List.length_cons]
   have:=ih (fun q hq=>h q (by simp [hq]))
   have:=List.length_pos_iff.2 (h p (by simp))
   omega
theorem evs_le (ps:List Pane) (p:Pane) (h:p ∈ ps):p.evs.length<=(evsOf ps).length:=by
 obtain ⟨a,b,rfl⟩:=List.append_of_mem h
 rw [evsOf_append,evsOf_cons,List.length_append,List.length_append];omega
theorem run_le (rs:List RunS) (r:RunS) (h:r ∈ rs):(evsOf r.ps).length<=(runEvs rs).length:=by
 obtain ⟨a,b,rfl⟩:=List.append_of_mem h
 rw [runEvs_append,runEvs_cons,List.length_append,List.length_append];omega
theorem runs_le (rs:List RunS) (h:∀ r ∈ rs,r.ps ≠ []/\∀ p ∈ r.ps,p.evs ≠ []):rs.length<=(runEvs rs).length:=by
 induction rs with
 | nil=>simp
 | cons r rs ih=>
   rw [runEvs_cons,List.length_append,List.length_cons]
   have:=ih (fun q hq=>h q (by simp [hq]))
   have h1:=h r (by simp)
   have:=ps_le_evs r.ps h1.2
   have:=List.length_pos_iff.2 h1.1
   omega
theorem Mod.runLen {st:St} {E:List Ev} {T:Option Int} (h:Mod st E T):(runEvs (st.es++st.gs)).length<=E.length:=by
 rw [h.perm.length_eq];exact List.length_filter_le _ _
theorem Mod.mem {st:St} {E:List Ev} {T:Option Int} (h:Mod st E T) {r:RunS} (hr:r ∈ st.es++st.gs) {p:Pane} (hp:p ∈ r.ps) {e:Ev} (he:e ∈ p.evs):e ∈ E:=by
 have:e ∈ runEvs (st.es++st.gs):=List.mem_flatMap.2 ⟨r,hr,List.mem_flatMap.2 ⟨p,hp,he⟩⟩
 exact (List.mem_filter.1 (h.perm.mem_iff.1 this)).1
theorem Mod.bounds {st:St} {E:List Ev} {T:Option Int} (h:Mod st E T) {r:RunS} (hr:r ∈ st.es++st.gs) {p:Pane} (hp:p ∈ r.ps) :
 -2305844108725321728<=p.first/\p.first<=p.last/\-2305844108725321728<=p.last/\p.last<=2305843009213693952:=by
 obtain ⟨h1,h2⟩:=(h.good r hr).pane p hp
 obtain ⟨e,he⟩:=List.exists_mem_of_ne_nil _ h1
 obtain ⟨-,e1,e2⟩:=h2 e he
 obtain ⟨-,b1,b2⟩:=h.evs e (h.mem hr hp he)
 have c1:=h.conf.s1
 have c2:=h.conf.s2
 have c3:=h.conf.s3
 have w1:=winFirst_gt st.size st.slide e.t c1
 have w2:=winLast_le st.slide e.t c1
 have w3:=winFirst_le_last st.size st.slide e.t c1 c2
 omega
theorem pane_le {size slide:Int} {T:Option Int} {r:RunS} (hg:RunGood size slide T r) (hs:1<=slide) {i j:Nat} {p q:Pane} (hij:i<=j) (hp:r.ps[i]?=some p) (hq:r.ps[j]?=some q):p.first<=q.first/\p.last<=q.last:=by
 by_cases he:i=j
 . subst he;rw [hp] at hq;cases hq;exact ⟨Int.le_refl _,Int.le_refl _⟩
 . have hlt:=cmpW_lt.1 (hg.sorted i j p q (by omega) hp hq)
   obtain ⟨p1,p2⟩:=hg.pane p (List.mem_of_getElem? hp)
   obtain ⟨q1,q2⟩:=hg.pane q (List.mem_of_getElem? hq)
   obtain ⟨a,ha⟩:=List.exists_mem_of_ne_nil _ p1
   obtain ⟨b,hb⟩:=List.exists_mem_of_ne_nil _ q1
   obtain ⟨-,a1,a2⟩:=p2 a ha
   obtain ⟨-,b1,b2⟩:=q2 b hb
   by_cases hab:a.t<=b.t
   . have:=winFirst_mono size slide a.t b.t hs hab
     have:=winLast_mono slide a.t b.t hs hab
     omega
   . have:=winFirst_mono size slide b.t a.t hs (by omega)
     have:=winLast_mono slide b.t a.t hs (by omega)
     omega
theorem Mod.runOk {st:St} {E:List Ev} {T:Option Int} (h:Mod st E T) (hE:E.length<=100000000) {r:RunS} (hr:r ∈ st.es++st.gs):r.ps ≠ []/\r.ps.length<=100000000/\(∀ p ∈ r.ps,p.evs.length<=100000000)/\∀ p ∈ r.ps,IntKind.i64.wrap (p.last+st.size)=p.last+st.size:=by
 have hg:=h.good r hr
 have h1:=ps_le_evs r.ps (fun p hp=>(hg.pane p hp).1)
 have h2:=run_le _ _ hr
 have h3:=h.runLen
 refine ⟨hg.ne,by omega,fun p hp=>?_,fun p hp=>?_⟩
 . have:=evs_le r.ps p hp;omega
 . have:=h.bounds hr hp
   have c1:=h.conf.s1
   have c2:=h.conf.s2
   have c3:=h.conf.s3
   rw [IntKind.wrap_i64];omega
theorem Mod.keepOk {st:St} {E:List Ev} {T:Option Int} (h:Mod st E T) (hE:E.length<=100000000) {r:RunS} (hr:r ∈ st.es++st.gs) (e:Ev) (hl:¬ (st.li=true/\e.t < st.lt)):KeepOk r (winFirst st.size st.slide e.t) (winLast st.slide e.t):=by
 obtain ⟨h1,h2,h3,h4⟩:=h.runOk hE hr
 have hg:=h.good r hr
 refine ⟨hg.sorted,by omega,fun t q ht hq=>?_,fun p hp=>by have:=h3 p hp;omega⟩
 have htd:=(hg.ins t q hq).1 ht
 cases hT:T with
 | none=>rw [hT] at htd;simp [toldB] at htd
 | some u=>
   rw [hT] at htd
   simp only [toldB,decide_eq_true_eq] at htd
   obtain ⟨l1,l2⟩:=h.told u hT
   have:=winFirst_gt st.size st.slide e.t h.conf.s1
   rw [cmpW_lt]
   left
   have:¬ e.t < st.lt:=fun hh=>hl ⟨l1,hh⟩
   omega
end Go.Proofs.YtcfngdnmpogaoaaGreat
namespace Go.Proofs.YtcfngdnmpogaoaaGreat
open Go.RowKit
variable {T:Option Int}
theorem cmpW_gt {a b c d:Int}:0 < cmpW a b c d ↔ c < a\/c=a/\d < b:=by
 unfold cmpW orI
 rcases cmpI_cases a c with ⟨h1,e1⟩ | ⟨h1,e1⟩ | ⟨h1,e1⟩ <;> rcases cmpI_cases b d with ⟨h2,e2⟩ | ⟨h2,e2⟩ | ⟨h2,e2⟩ <;> rw [e1,e2] <;> simp <;> omega
theorem evsOf_set (ps:List Pane) (k:Nat) (p:Pane) (e:Ev) (h:ps[k]?=some p):(evsOf (ps.set k ⟨p.first,p.last,p.evs++[e]⟩)).Perm (e :: evsOf ps):=by
 induction ps generalizing k with
 | nil=>simp at h
 | cons q ps ih=>
   cases k with
   | zero=>
     simp at h
     subst h
     rw [List.set_cons_zero,evsOf_cons,evsOf_cons]
     simp only [List.append_assoc]
     exact List.perm_middle
   | succ k=>
     simp at h
     rw [List.set_cons_succ,evsOf_cons,evsOf_cons]
     exact (List.Perm.append_left _ (ih k h)).trans List.perm_middle
theorem evsOf_ins (ps:List Pane) (k:Nat) (f l:Int):evsOf (ps.take k++⟨f,l,[]⟩ :: ps.drop k)=evsOf ps:=by
 rw [evsOf_append,evsOf_cons,List.nil_append,<- evsOf_append,List.take_append_drop]
theorem ins_sorted (ps:List Pane) (k:Nat) (f l:Int) (evs:List Ev) (hs:Sorted ps) (hk:k<=ps.length) (h1:∀ (t:Nat) q,t < k->ps[t]?=some q->cmpW q.first q.last f l < 0) (h2:∀ (t:Nat) q,k<=t->ps[t]?=some q->0 < cmpW q.first q.last f l) :
 Sorted (ps.take k++⟨f,l,evs⟩ :: ps.drop k):=by
 intro i j p q hij hp hq
 rw [insAt' _ _ _ _ hk] at hp hq
 by_cases hi:i < k
 . rw [if_pos hi] at hp
   by_cases hj:j < k
   . rw [if_pos hj] at hq;exact hs i j p q hij hp hq
   . rw [if_neg hj] at hq
     by_cases hjk:j=k
     . rw [if_pos hjk] at hq;cases hq;exact h1 i p hi hp
     . rw [if_neg hjk] at hq;exact hs i (j - 1) p q (by omega) hp hq
 . rw [if_neg hi] at hp
   by_cases hik:i=k
   . rw [if_pos hik] at hp
     cases hp
     rw [if_neg (by omega),if_neg (by omega)] at hq
     have:=cmpW_gt.1 (h2 (j - 1) q (by omega) hq)
     rw [cmpW_lt];simp only;omega
   . rw [if_neg hik] at hp
     rw [if_neg (by omega),if_neg (by omega)] at hq
     exact hs (i - 1) (j - 1) p q (by omega) hp hq
structure RunPre (size slide:Int) (T:Option Int) (r:RunS):Prop where
 sorted:Sorted r.ps
 pane:∀ p ∈ r.ps,p.evs ≠ []/\∀ e ∈ p.evs,e.key=r.key/\winFirst size slide e.t=p.first/\winLast slide e.t=p.last
 rem:∀ p ∈ r.ps,toldB T (p.last+size)=false
 ins:∀ (i:Nat) p,r.ps[i]?=some p->(i < r.inside ↔ toldB T (p.first+size)=true)
 insLe:r.inside<=r.ps.length
 nxt:0 < r.inside->∀ t,T=some t->r.next=down (t - size) slide+slide
theorem RunGood.pre {size slide:Int} {r:RunS} (h:RunGood size slide T r):RunPre size slide T r:=⟨h.sorted,h.pane,h.rem,h.ins,h.insLe,h.nxt⟩
theorem RunPre.new (size slide:Int) (T:Option Int) (key:ByteArray):RunPre size slide T ⟨key,[],0,0⟩:=⟨fun i j p q _ h=>by simp at h,fun p hp=>by simp at hp,fun p hp=>by simp at hp,fun i p h=>by simp at h,Nat.le_refl _,fun h=>by simp at h⟩
def Behind (T:Option Int) (t:Int):Prop:=∀ u,T=some u->u<=t
theorem Behind.not {t x:Int} (h:Behind T t) (hx:t < x):toldB T x=false:=by
 cases hT:T with
 | none=>rfl
 | some u=>have:=h u hT;simp [toldB];omega
theorem good_add {size slide:Int} {r r':RunS} {e:Ev} (hs:1<=slide) (hz:slide<=size) (h:RunPre size slide T r) (hkey:r.key=e.key) (hb:Behind T e.t) (ha:AddTo r e (winFirst size slide e.t) (winLast slide e.t) r') :
 RunGood size slide T r'/\(evsOf r'.ps).Perm (e :: evsOf r.ps)/\(∀ p' ∈ r'.ps,p'.first=winFirst size slide e.t\/∃ p ∈ r.ps,p.first=p'.first)/\(∃ p' ∈ r'.ps,p'.last=winLast slide e.t)/\((∃ p' ∈ r'.ps,p'.last=winLast slide e.t)/\∀ p ∈ r.ps,∃ p' ∈ r'.ps,p'.last=p.last):=by
 obtain ⟨k,r1,p,hpf,hp,hps⟩:=ha.how
 obtain ⟨p0,hp0,hf,hl⟩:=hpf.here
 rw [hp] at hp0
 cases hp0
 have hF:=winFirst_gt size slide e.t hs
 have hL:=winLast_le slide e.t hs
 have hk1:k < r1.ps.length:=(List.getElem?_eq_some_iff.1 hp).1
 have hs1:Sorted r1.ps:=by
  rcases hpf.how with e1 | ⟨hle,h1,h2,e1⟩
  . rw [e1];exact h.sorted
  . rw [e1];exact ins_sorted r.ps k _ _ [] h.sorted hle h1 h2
 have hat:∀ (i:Nat) q,r1.ps[i]?=some q->i ≠ k->∃ j,r.ps[j]?=some q/\(i < r.inside ↔ j < r.inside):=by
  intro i q hq hik
  rcases hpf.how with e1 | ⟨hle,_,_,e1⟩
  . rw [e1] at hq;exact ⟨i,hq,Iff.rfl⟩
  . rw [e1,insAt' _ _ _ _ hle] at hq
    have:=hpf.ins
    by_cases hi:i < k
    . rw [if_pos hi] at hq;exact ⟨i,hq,Iff.rfl⟩
    . rw [if_neg hi,if_neg hik] at hq;exact ⟨i - 1,hq,by omega⟩
 have hpevs:p ∈ r.ps\/p.evs=[]:=by
  rcases hpf.how with e1 | ⟨hle,_,_,e1⟩
  . rw [e1] at hp;exact .inl (List.mem_of_getElem? hp)
  . rw [e1,insAt' _ _ _ _ hle] at hp
    simp at hp
    subst hp;exact .inr rfl
 have hget:∀ (i:Nat) q,r'.ps[i]?=some q->(i=k/\q=⟨p.first,p.last,p.evs++[e]⟩)\/(i ≠ k/\r1.ps[i]?=some q):=by
  intro i q hq
  rw [hps,set_at _ _ _ _ hk1] at hq
  by_cases hik:i=k
  . rw [if_pos hik] at hq;cases hq;exact .inl ⟨hik,rfl⟩
  . rw [if_neg hik] at hq;exact .inr ⟨hik,hq⟩
 have hsame:∀ (i:Nat) q,r'.ps[i]?=some q->∃ q1,r1.ps[i]?=some q1/\q1.first=q.first/\q1.last=q.last:=by
  intro i q hq
  rcases hget i q hq with ⟨rfl,rfl⟩ | ⟨_,h1⟩
  . exact ⟨p,hp,rfl,rfl⟩
  . exact ⟨q,h1,rfl,rfl⟩
 have hk':r'.ps[k]?=some ⟨p.first,p.last,p.evs++[e]⟩:=by rw [hps,set_at _ _ _ _ hk1,if_pos rfl]
 have hlen1:r.ps.length<=r1.ps.length:=by
  rcases hpf.how with e1 | ⟨hle,_,_,e1⟩
  . rw [e1];exact Nat.le_refl _
  . rw [e1,(ins_perm r.ps k _).length_eq];simp
 have hperm1:evsOf r1.ps=evsOf r.ps:=by
  rcases hpf.how with e1 | ⟨hle,_,_,e1⟩
  . rw [e1]
  . rw [e1,evsOf_ins]
 have hins1:∀ q ∈ r.ps,∃ q1 ∈ r1.ps,q1=q:=by
  intro q hq
  rcases hpf.how with e1 | ⟨hle,_,_,e1⟩
  . rw [e1];exact ⟨q,hq,rfl⟩
  . rw [e1];exact ⟨q,(ins_perm r.ps k _).mem_iff.2 (by simp [hq]),rfl⟩
 refine ⟨⟨?_,?_,?_,?_,?_,?_,?_⟩,?_,?_,?_,?_,?_⟩
 . intro h0;rw [h0] at hk';simp at hk'
 . intro i j a b hij ha' hb'
   obtain ⟨a1,h1,e1,e2⟩:=hsame i a ha'
   obtain ⟨b1,h2,e3,e4⟩:=hsame j b hb'
   have:=hs1 i j a1 b1 hij h1 h2
   rw [e1,e2,e3,e4] at this
   exact this
 . intro q hq
   obtain ⟨i,hi,rfl⟩:=List.mem_iff_getElem.1 hq
   rcases hget i _ (List.getElem?_eq_getElem hi) with ⟨_,e1⟩ | ⟨hik,h1⟩
   . rw [e1]
     refine ⟨by simp,fun x hx=>?_⟩
     simp only [List.mem_append,List.mem_singleton] at hx
     rcases hx with hx | rfl
     . rcases hpevs with hm | h0
       . have:=(h.pane p hm).2 x hx
         rw [ha.key];exact this
       . rw [h0] at hx;simp at hx
     . exact ⟨by rw [ha.key];exact hkey.symm,hf.symm,hl.symm⟩
   . obtain ⟨j,hj,_⟩:=hat i _ h1 hik
     have:=h.pane _ (List.mem_of_getElem? hj)
     rw [ha.key];exact this
 . intro q hq
   obtain ⟨i,hi,rfl⟩:=List.mem_iff_getElem.1 hq
   rcases hget i _ (List.getElem?_eq_getElem hi) with ⟨_,e1⟩ | ⟨hik,h1⟩
   . rw [e1]
     exact hb.not (by simp only;rw [hl];omega)
   . obtain ⟨j,hj,_⟩:=hat i _ h1 hik
     exact h.rem _ (List.mem_of_getElem? hj)
 . intro i q hq
   rw [ha.inside]
   rcases hget i q hq with ⟨rfl,rfl⟩ | ⟨hik,h1⟩
   . have hn:toldB T (p.first+size)=false:=hb.not (by rw [hf];omega)
     simp only [hn]
     have:=hpf.ins
     constructor
     . intro hlt;omega
     . intro hh;cases hh
   . obtain ⟨j,hj,hji⟩:=hat i q h1 hik
     rw [hji];exact h.ins j q hj
 . rw [ha.inside,hps,List.length_set]
   have:=h.insLe;omega
 . rw [ha.inside,ha.next];exact h.nxt
 . rw [hps]
   exact (evsOf_set r1.ps k p e hp).trans (by rw [hperm1])
 . intro q hq
   obtain ⟨i,hi,rfl⟩:=List.mem_iff_getElem.1 hq
   rcases hget i _ (List.getElem?_eq_getElem hi) with ⟨_,e1⟩ | ⟨hik,h1⟩
   . left;rw [e1];exact hf
   . obtain ⟨j,hj,_⟩:=hat i _ h1 hik
     right;exact ⟨_,List.mem_of_getElem? hj,rfl⟩
 . exact ⟨_,List.mem_of_getElem? hk',hl⟩
 . exact ⟨_,List.mem_of_getElem? hk',hl⟩
 . intro q hq
   obtain ⟨q1,hq1,rfl⟩:=hins1 q hq
   obtain ⟨i,hi,rfl⟩:=List.mem_iff_getElem.1 hq1
   by_cases hik:i=k
   . subst hik
     refine ⟨_,List.mem_of_getElem? hk',?_⟩
     have:=(List.getElem?_eq_getElem hi).symm.trans hp
     simp only [Option.some.injEq] at this
     rw [this]
   . refine ⟨r1.ps[i],List.mem_of_getElem? (i:=i) ?_,rfl⟩
     rw [hps,set_at _ _ _ _ hk1,if_neg hik];exact List.getElem?_eq_getElem hi
theorem Mod.congr {st st':St} {E:List Ev} (h:Mod st E T) (h1:st'.size=st.size) (h2:st'.slide=st.slide) (h3:st'.late=st.late) (h4:st'.keys=st.keys) (h5:st'.lt=st.lt) (h6:st'.li=st.li) (h7:st'.gs=st.gs) (h8:st'.es=st.es):Mod st' E T:=by
 have c:=h.conf
 refine ⟨⟨by rw [h2];exact c.s1,by rw [h1,h2];exact c.s2,by rw [h1];exact c.s3,by rw [h3];exact c.l1,by rw [h3];exact c.l2,by rw [h4];exact c.k1,by rw [h4];exact c.k2⟩,by rw [h7];exact h.gsK,by rw [h7,h4];exact h.gsLen,by rw [h7,h8,h1,h2];exact h.good,by rw [h7,h8,h1,h2];exact h.perm,by rw [h7,h8];exact h.order,by rw [h7,h6,h5,h1];exact h.gsU,by rw [h8,h6,h5,h1];exact h.esF,by rw [h6,h5];exact h.told,h.evs⟩
theorem Mod.keep {st:St} {E:List Ev} {e:Ev} {gs':List RunS} (h:Mod st E T) (he:evOk e) (hl:¬ (st.li=true/\e.t < st.lt)) (hfull:¬ evFull st.keys st.gs e) (hk:KeepRel st.gs gs' e (winFirst st.size st.slide e.t) (winLast st.slide e.t)) :
 Mod { st with gs:=gs' } (E++[e]) T:=by
 obtain ⟨pre,r,post,r',hgs',hkey,hadd,hcase⟩:=hk
 have c1:=h.conf.s1
 have c2:=h.conf.s2
 have hb:Behind T e.t:=fun u hu=>by
  obtain ⟨l1,l2⟩:=h.told u hu
  have:¬ e.t < st.lt:=fun hh=>hl ⟨l1,hh⟩
  omega
 have hpre:RunPre st.size st.slide T r:=by
  rcases hcase with e1 | ⟨_,_,_,e2⟩
  . exact (h.good r (by rw [e1];simp)).pre
  . rw [e2];exact RunPre.new _ _ _ _
 obtain ⟨hgood,hperm,hfirst,-,hlast1,hlast2⟩:=good_add c1 c2 hpre hkey hb hadd
 have hF:=winFirst_gt st.size st.slide e.t c1
 have hL:=winLast_le st.slide e.t c1
 have hkey':r'.key=e.key:=hadd.key.trans hkey
 have hother:∀ x,x ∈ pre\/x ∈ post->x.key ≠ e.key:=fun x hx=>by
  rcases hcase with e1 | ⟨hn,e1,e2,_⟩
  . have hnd:=h.gsK
    rw [e1,List.map_append,List.map_cons,(List.perm_middle).nodup_iff,List.nodup_cons] at hnd
    intro hxk
    apply hnd.1
    rw [hkey,<- hxk,<- List.map_append]
    exact List.mem_map_of_mem (by rcases hx with hx | hx <;> simp [hx])
  . rcases hx with hx | hx
    . exact hn x (by rw [e1];exact hx)
    . rw [e2] at hx;simp at hx
 have hold:∀ x,x ∈ pre\/x ∈ post->x ∈ st.gs:=fun x hx=>by
  rcases hcase with e1 | ⟨_,e1,e2,_⟩
  . rw [e1];rcases hx with hx | hx <;> simp [hx]
  . rcases hx with hx | hx
    . rw [e1];exact hx
    . rw [e2] at hx;simp at hx
 have hmem:∀ x,x ∈ gs'->x=r'\/(x ∈ pre\/x ∈ post):=fun x hx=>by
  rw [hgs'] at hx
  simp only [List.mem_append,List.mem_cons] at hx
  rcases hx with hx | hx | hx
  . exact .inr (.inl hx)
  . exact .inl hx
  . exact .inr (.inr hx)
 refine ⟨⟨h.conf.s1,h.conf.s2,h.conf.s3,h.conf.l1,h.conf.l2,h.conf.k1,h.conf.k2⟩,?_,?_,?_,?_,?_,?_,h.esF,h.told,?_⟩
 . show (gs'.map RunS.key).Nodup
   rcases hcase with e1 | ⟨hn,e1,e2,_⟩
   . have e3:gs'.map RunS.key=st.gs.map RunS.key:=by rw [hgs',e1];simp [hadd.key]
     rw [e3];exact h.gsK
   . rw [hgs',e2,List.map_append,List.map_cons,(List.perm_middle).nodup_iff,List.nodup_cons,List.map_nil,List.append_nil]
     refine ⟨fun hm=>?_,by rw [<- e1];exact h.gsK⟩
     obtain ⟨x,hx,hxk⟩:=List.mem_map.1 hm
     exact hother x (.inl hx) (hxk.trans hkey')
 . show (gs'.length:Int)<=st.keys
   rcases hcase with e1 | ⟨hn,e1,e2,_⟩
   . have e3:gs'.length=st.gs.length:=by rw [hgs',e1];simp
     rw [e3];exact h.gsLen
   . have e3:gs'.length=st.gs.length+1:=by rw [hgs',e2,e1];simp
     have:¬ st.keys<=(st.gs.length:Int):=fun hh=>hfull ⟨hh,hn⟩
     omega
 . intro x hx
   rcases List.mem_append.1 hx with hx | hx
   . exact h.good x (by simp [hx])
   . rcases hmem x hx with rfl | hx
     . exact hgood
     . exact h.good x (by simp [hold x hx])
 . have hun:untold T st.size st.slide (E++[e])=untold T st.size st.slide E++[e]:=by
    unfold untold
    rw [List.filter_append]
    have:toldB T (winLast st.slide e.t+st.size)=false:=hb.not (by omega)
    simp [this]
   show (runEvs (st.es++gs')).Perm (untold T st.size st.slide (E++[e]))
   rw [hun]
   have p1:(runEvs (st.es++gs')).Perm (e :: runEvs (st.es++st.gs)):=by
    have q:(runEvs gs').Perm (e :: runEvs st.gs):=by
     rw [hgs',runEvs_append,runEvs_cons]
     have q1:(runEvs pre++(evsOf r'.ps++runEvs post)).Perm (runEvs pre++(e :: (evsOf r.ps++runEvs post))):=List.Perm.append_left _ (List.Perm.append_right _ hperm)
     refine q1.trans (List.perm_middle.trans (List.Perm.cons e ?_))
     rcases hcase with e1 | ⟨_,e1,e2,e3⟩
     . rw [e1,runEvs_append,runEvs_cons]
     . rw [e1,e2,e3];simp [evsOf,runEvs]
    rw [runEvs_append,runEvs_append]
    exact (List.Perm.append_left _ q).trans List.perm_middle
   exact p1.trans ((List.Perm.cons e h.perm).trans (List.perm_append_comm (l₁:=[e])))
 . show (st.es++gs').Pairwise RunLt
   have ho:=h.order
   rw [List.pairwise_append] at ho ⊢
   obtain ⟨o1,o2,o3⟩:=ho
   have hlt:∀ x ∈ st.es,RunLt x r':=fun x hx hxk p hp p' hp'=>by
    rcases hfirst p' hp' with hf | ⟨q,hq,hqf⟩
    . obtain ⟨f1,f2⟩:=h.esF x hx
      have:=f2 p hp
      have:¬ e.t < st.lt:=fun hh=>hl ⟨f1,hh⟩
      omega
    . rcases hcase with e1 | ⟨_,_,_,e3⟩
      . have hr:r ∈ st.gs:=by rw [e1];simp
        have:=o3 x hx r hr (by rw [hxk,hkey',hkey]) p hp q hq
        omega
      . rw [e3] at hq;simp at hq
   have hgg:gs'.Pairwise RunLt:=by
    rw [hgs',List.pairwise_append]
    have hpp:pre.Pairwise RunLt/\post.Pairwise RunLt/\∀ a ∈ pre,∀ b ∈ post,RunLt a b:=by
     rcases hcase with e1 | ⟨_,e1,e2,_⟩
     . rw [e1,List.pairwise_append] at o2
       obtain ⟨a1,a2,a3⟩:=o2
       rw [List.pairwise_cons] at a2
       exact ⟨a1,a2.2,fun a ha b hb=>a3 a ha b (by simp [hb])⟩
     . rw [e1] at o2
       rw [e2]
       exact ⟨o2,List.Pairwise.nil,fun a _ b hb=>by simp at hb⟩
    refine ⟨hpp.1,?_,fun a ha b hb=>?_⟩
    . rw [List.pairwise_cons]
      exact ⟨fun y hy hyk=>absurd (hyk.symm.trans hkey') (hother y (.inr hy)),hpp.2.1⟩
    . rcases List.mem_cons.1 hb with rfl | hb
      . exact fun hak=>absurd (hak.trans hkey') (hother a (.inl ha))
      . exact hpp.2.2 a ha b hb
   refine ⟨o1,hgg,fun x hx y hy=>?_⟩
   rcases hmem y hy with rfl | hy
   . exact hlt x hx
   . exact o3 x hx y (hold y hy)
 . intro x hx
   rcases hmem x hx with rfl | hx
   . obtain ⟨p',hp',hpl⟩:=hlast1
     refine ⟨p',hp',?_⟩
     show st.li=false\/st.lt < p'.last+st.size
     by_cases hli:st.li=true
     . right
       have:¬ e.t < st.lt:=fun hh=>hl ⟨hli,hh⟩
       omega
     . left;simpa using hli
   . exact h.gsU x (hold x hx)
 . intro x hx
   rcases List.mem_append.1 hx with hx | hx
   . exact h.evs x hx
   . simp at hx;subst hx;exact he
end Go.Proofs.YtcfngdnmpogaoaaGreat
namespace Go.Proofs.YtcfngdnmpogaoaaGreat
open Go.RowKit
variable {E:List Ev} {T:Option Int} {st:St}
def leastStepS (m:Int × Bool) (s:SrcS):Int × Bool:=if s.is && (!m.2 || decide (s.time < m.1)) then (s.time,true) else m
def leastS (l:List SrcS):Int × Bool:=l.foldl leastStepS (0,false)
theorem leastF_S (l:List SSrc):leastF l=leastS (l.map srcS):=by
 unfold leastF leastS
 rw [List.foldl_map];rfl
def St.setLine (st:St) (t:Int):St:={ st with lt:=t,li:=true,gs:=st.gs.filter (fun r=>!pastRun st.size t r),es:=st.es++st.gs.filter (fun r=>pastRun st.size t r) }
def lineF (late:Int) (src:List SrcS) (lt:Int) (li:Bool):Int × Bool:=
 if (leastS src).2 then (if li=false\/lt < (leastS src).1 - late then (leastS src).1 - late else lt,true) else (lt,li)
def St.moved (st:St):St:=if (leastS st.src).2 then st.setLine (lineF st.late st.src st.lt st.li).1 else st
theorem filter_part {α:Type} (p:α->Bool) (l:List α):(l.filter p++l.filter (fun x=>!p x)).Perm l:=List.filter_append_perm p l
theorem Mod.move (h:Mod st E T) (t:Int) (ht:st.li=true->st.lt<=t):Mod (st.setLine t) E T:=by
 have hmem:∀ x,x ∈ (st.setLine t).es++(st.setLine t).gs->x ∈ st.es++st.gs:=fun x hx=>by
  simp only [St.setLine,List.mem_append,List.mem_filter] at hx ⊢
  rcases hx with (hx | hx) | hx
  . exact .inl hx
  . exact .inr hx.1
  . exact .inr hx.1
 have hkeys:∀ x ∈ st.gs,∀ y ∈ st.gs,pastRun st.size t x ≠ pastRun st.size t y->x.key ≠ y.key:=fun x hx y hy hne hk=>by
  have:=(List.pairwise_map.1 (List.nodup_iff_pairwise_ne.1 h.gsK))
  obtain ⟨i,hi,rfl⟩:=List.mem_iff_getElem.1 hx
  obtain ⟨j,hj,rfl⟩:=List.mem_iff_getElem.1 hy
  rw [List.pairwise_iff_getElem] at this
  rcases Nat.lt_trichotomy i j with hl | hl | hl
  . exact this i j hi hj hl hk
  . subst hl;exact hne rfl
  . exact this j i hj hi hl hk.symm
 refine ⟨⟨h.conf.s1,h.conf.s2,h.conf.s3,h.conf.l1,h.conf.l2,h.conf.k1,h.conf.k2⟩,?_,?_,fun x hx=>h.good x (hmem x hx),?_,?_,?_,?_,?_,h.evs⟩
 . exact List.Sublist.nodup (List.Sublist.map _ List.filter_sublist) h.gsK
 . have:=List.length_filter_le (fun r=>!pastRun st.size t r) st.gs
   have:=h.gsLen
   show ((st.gs.filter (fun r=>!pastRun st.size t r)).length:Int)<=st.keys
   omega
 . show (runEvs ((st.es++st.gs.filter (fun r=>pastRun st.size t r))++st.gs.filter (fun r=>!pastRun st.size t r))).Perm _
   refine List.Perm.trans ?_ h.perm
   rw [List.append_assoc]
   exact List.Perm.flatMap_right _ (List.Perm.append_left _ (filter_part _ _))
 . show ((st.es++st.gs.filter (fun r=>pastRun st.size t r))++st.gs.filter (fun r=>!pastRun st.size t r)).Pairwise RunLt
   have ho:=h.order
   rw [List.pairwise_append] at ho
   obtain ⟨o1,o2,o3⟩:=ho
   rw [List.append_assoc,List.pairwise_append,List.pairwise_append]
   refine ⟨o1,⟨o2.sublist List.filter_sublist,o2.sublist List.filter_sublist,fun x hx y hy hk=>?_⟩,fun x hx y hy=>?_⟩
   . rw [List.mem_filter] at hx hy
     refine absurd hk (hkeys x hx.1 y hy.1 ?_)
     rw [hx.2]
     intro hh
     have:=hy.2
     rw [<- hh] at this
     simp at this
   . refine o3 x hx y ?_
     rcases List.mem_append.1 hy with hy | hy
     . exact (List.mem_filter.1 hy).1
     . exact (List.mem_filter.1 hy).1
 . intro x hx
   have hx':=List.mem_filter.1 (show x ∈ st.gs.filter (fun r=>!pastRun st.size t r) from hx)
   have hg:=h.good x (by simp [hx'.1])
   obtain ⟨p,hp⟩:∃ p,x.ps.getLast?=some p:=⟨_,List.getLast?_eq_some_getLast hg.ne⟩
   have:=hx'.2
   simp only [pastRun,hp,Bool.not_eq_true',decide_eq_false_iff_not,Int.not_le] at this
   exact ⟨p,List.mem_of_getLast? hp,.inr this⟩
 . intro x hx
   refine ⟨rfl,fun p hp=>?_⟩
   show p.last+st.size<=t
   rcases List.mem_append.1 (show x ∈ st.es++st.gs.filter (fun r=>pastRun st.size t r) from hx) with hx | hx
   . obtain ⟨f1,f2⟩:=h.esF x hx
     have:=f2 p hp
     have:=ht f1
     omega
   . have hx':=List.mem_filter.1 hx
     have hg:=h.good x (by simp [hx'.1])
     obtain ⟨q,hq⟩:∃ q,x.ps.getLast?=some q:=⟨_,List.getLast?_eq_some_getLast hg.ne⟩
     have:=hx'.2
     simp only [pastRun,hq,decide_eq_true_eq] at this
     obtain ⟨i,hi,rfl⟩:=List.mem_iff_getElem.1 hp
     rw [List.getLast?_eq_getElem?] at hq
     have:=(pane_le hg h.conf.s1 (show i<=x.ps.length - 1 by omega) (List.getElem?_eq_getElem hi) hq).2
     omega
 . intro u hu
   obtain ⟨l1,l2⟩:=h.told u hu
   refine ⟨rfl,?_⟩
   show u<=t
   have:=ht l1
   omega
theorem Mod.moved (h:Mod st E T):Mod st.moved E T:=by
 unfold St.moved
 split
 . rename_i h2
   refine h.move _ (fun hli=>?_)
   unfold lineF
   rw [if_pos h2]
   simp only
   split
   . rename_i h3
     rcases h3 with h3 | h3
     . rw [hli] at h3;cases h3
     . omega
   . omega
 . exact h
def behind (size slide lt:Int) (li:Bool) (e:Ev):Bool:=li && decide (winLast slide e.t+size<=lt)
theorem Mod.going (h:Mod st E T) (key:ByteArray):(∃ r ∈ st.gs,r.key=key) ↔ ∃ e ∈ E,e.key=key/\behind st.size st.slide st.lt st.li e=false:=by
 constructor
 . rintro ⟨r,hr,rfl⟩
   obtain ⟨p,hp,hu⟩:=h.gsU r hr
   obtain ⟨p1,p2⟩:=(h.good r (by simp [hr])).pane p hp
   obtain ⟨e,he⟩:=List.exists_mem_of_ne_nil _ p1
   obtain ⟨k1,k2,k3⟩:=p2 e he
   refine ⟨e,h.mem (by simp [hr]) hp he,k1,?_⟩
   unfold behind
   rw [k3]
   rcases hu with hu | hu
   . rw [hu];rfl
   . rw [decide_eq_false (by omega)];simp
 . rintro ⟨e,he,rfl,hb⟩
   have hun:toldB T (winLast st.slide e.t+st.size)=false:=by
    cases hT:T with
    | none=>rfl
    | some u=>
      obtain ⟨l1,l2⟩:=h.told u hT
      unfold behind at hb
      rw [l1] at hb
      simp only [Bool.true_and,decide_eq_false_iff_not] at hb
      simp only [toldB,decide_eq_false_iff_not]
      omega
   have hm:=h.perm.mem_iff.2 (List.mem_filter.2 ⟨he,by simp [hun]⟩)
   obtain ⟨r,hr,hre⟩:=List.mem_flatMap.1 hm
   obtain ⟨p,hp,hpe⟩:=List.mem_flatMap.1 hre
   obtain ⟨k1,k2,k3⟩:=((h.good r hr).pane p hp).2 e hpe
   rcases List.mem_append.1 hr with hr | hr
   . obtain ⟨f1,f2⟩:=h.esF r hr
     have:=f2 p hp
     unfold behind at hb
     rw [f1] at hb
     simp only [Bool.true_and,decide_eq_false_iff_not] at hb
     omega
   . exact ⟨r,hr,k1.symm⟩
def goKeys (size slide lt:Int) (li:Bool) (E:List Ev):List ByteArray:=E.foldl (fun ks e=>if behind size slide lt li e || ks.any (fun k=>keyEq k e.key) then ks else ks++[e.key]) []
theorem goKeys_snoc (size slide lt:Int) (li:Bool) (E:List Ev) (e:Ev):goKeys size slide lt li (E++[e])=if behind size slide lt li e || (goKeys size slide lt li E).any (fun k=>keyEq k e.key) then goKeys size slide lt li E else goKeys size slide lt li E++[e.key]:=by
 unfold goKeys;rw [List.foldl_append];rfl
end Go.Proofs.YtcfngdnmpogaoaaGreat
