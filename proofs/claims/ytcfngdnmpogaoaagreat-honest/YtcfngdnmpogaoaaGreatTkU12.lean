import Derived.Test.YtcfngdnmpogaoaaGreatTkU11
import Derived.Test.YtcfngdnmpogaoaaGreatTkU07
import Derived.Test.YtcfngdnmpogaoaaGreatTkT16
namespace Go.Proofs.YtcfngdnmpogaoaaGreat
open Go.RowKit
variable {T:Option Int}
theorem cmpW_gt {a b c d:Int}:0 < cmpW a b c d ↔ c < a\/c=a/\d < b:=by
 unfold cmpW orI
 rcases cmpI_cases a c with ⟨h1,e1⟩ | ⟨h1,e1⟩ | ⟨h1,e1⟩ <;> rcases cmpI_cases b d with ⟨h2,e2⟩ | ⟨h2,e2⟩ | ⟨h2,e2⟩ <;> rw [e1,e2] <;> simp <;> omega
theorem evsOf_set (ps:List Pane) (k:Nat) (p:Pane) (e:Ev) (h:ps[k]?=some p):(evsOf (ps.set k ⟨p.first,p.last,p.evs++[e]⟩)).Perm (e :: evsOf ps):=by
 induction ps generalizing k with
 | nil=>simp at h
 | cons q ps ih=>
   cases k with
   | zero=>
     simp at h
     subst h
     rw [List.set_cons_zero,evsOf_cons,evsOf_cons]
     simp only [List.append_assoc]
     exact List.perm_middle
   | succ k=>
     simp at h
     rw [List.set_cons_succ,evsOf_cons,evsOf_cons]
     exact (List.Perm.append_left _ (ih k h)).trans List.perm_middle
theorem evsOf_ins (ps:List Pane) (k:Nat) (f l:Int):evsOf (ps.take k++⟨f,l,[]⟩ :: ps.drop k)=evsOf ps:=by
 rw [evsOf_append,evsOf_cons,List.nil_append,<- evsOf_append,List.take_append_drop]
theorem ins_sorted (ps:List Pane) (k:Nat) (f l:Int) (evs:List Ev) (hs:Sorted ps) (hk:k<=ps.length) (h1:∀ (t:Nat) q,t < k->ps[t]?=some q->cmpW q.first q.last f l < 0) (h2:∀ (t:Nat) q,k<=t->ps[t]?=some q->0 < cmpW q.first q.last f l) :
 Sorted (ps.take k++⟨f,l,evs⟩ :: ps.drop k):=by
 intro i j p q hij hp hq
 rw [insAt' _ _ _ _ hk] at hp hq
 by_cases hi:i < k
 . rw [if_pos hi] at hp
   by_cases hj:j < k
   . rw [if_pos hj] at hq;exact hs i j p q hij hp hq
   . rw [if_neg hj] at hq
     by_cases hjk:j=k
     . rw [if_pos hjk] at hq;cases hq;exact h1 i p hi hp
     . rw [if_neg hjk] at hq;exact hs i (j - 1) p q (by omega) hp hq
 . rw [if_neg hi] at hp
   by_cases hik:i=k
   . rw [if_pos hik] at hp
     cases hp
     rw [if_neg (by omega),if_neg (by omega)] at hq
     have:=cmpW_gt.1 (h2 (j - 1) q (by omega) hq)
     rw [cmpW_lt];simp only;omega
   . rw [if_neg hik] at hp
     rw [if_neg (by omega),if_neg (by omega)] at hq
     exact hs (i - 1) (j - 1) p q (by omega) hp hq
structure RunPre (size slide:Int) (T:Option Int) (r:RunS):Prop where
 sorted:Sorted r.ps
 pane:∀ p ∈ r.ps,p.evs ≠ []/\∀ e ∈ p.evs,e.key=r.key/\winFirst size slide e.t=p.first/\winLast slide e.t=p.last
 rem:∀ p ∈ r.ps,toldB T (p.last+size)=false
 ins:∀ (i:Nat) p,r.ps[i]?=some p->(i < r.inside ↔ toldB T (p.first+size)=true)
 insLe:r.inside<=r.ps.length
 nxt:0 < r.inside->∀ t,T=some t->r.next=down (t - size) slide+slide
theorem RunGood.pre {size slide:Int} {r:RunS} (h:RunGood size slide T r):RunPre size slide T r:=⟨h.sorted,h.pane,h.rem,h.ins,h.insLe,h.nxt⟩
theorem RunPre.new (size slide:Int) (T:Option Int) (key:ByteArray):RunPre size slide T ⟨key,[],0,0⟩:=⟨fun i j p q _ h=>by simp at h,fun p hp=>by simp at hp,fun p hp=>by simp at hp,fun i p h=>by simp at h,Nat.le_refl _,fun h=>by simp at h⟩
def Behind (T:Option Int) (t:Int):Prop:=∀ u,T=some u->u<=t
theorem Behind.not {t x:Int} (h:Behind T t) (hx:t < x):toldB T x=false:=by
 cases hT:T with
 | none=>rfl
 | some u=>have:=h u hT;simp [toldB];omega
theorem good_add {size slide:Int} {r r':RunS} {e:Ev} (hs:1<=slide) (hz:slide<=size) (h:RunPre size slide T r) (hkey:r.key=e.key) (hb:Behind T e.t) (ha:AddTo r e (winFirst size slide e.t) (winLast slide e.t) r') :
 RunGood size slide T r'/\(evsOf r'.ps).Perm (e :: evsOf r.ps)/\(∀ p' ∈ r'.ps,p'.first=winFirst size slide e.t\/∃ p ∈ r.ps,p.first=p'.first)/\(∃ p' ∈ r'.ps,p'.last=winLast slide e.t)/\((∃ p' ∈ r'.ps,p'.last=winLast slide e.t)/\∀ p ∈ r.ps,∃ p' ∈ r'.ps,p'.last=p.last):=by
 obtain ⟨k,r1,p,hpf,hp,hps⟩:=ha.how
 obtain ⟨p0,hp0,hf,hl⟩:=hpf.here
 rw [hp] at hp0
 cases hp0
 have hF:=winFirst_gt size slide e.t hs
 have hL:=winLast_le slide e.t hs
 have hk1:k < r1.ps.length:=(List.getElem?_eq_some_iff.1 hp).1
 have hs1:Sorted r1.ps:=by
  rcases hpf.how with e1 | ⟨hle,h1,h2,e1⟩
  . rw [e1];exact h.sorted
  . rw [e1];exact ins_sorted r.ps k _ _ [] h.sorted hle h1 h2
 have hat:∀ (i:Nat) q,r1.ps[i]?=some q->i ≠ k->∃ j,r.ps[j]?=some q/\(i < r.inside ↔ j < r.inside):=by
  intro i q hq hik
  rcases hpf.how with e1 | ⟨hle,_,_,e1⟩
  . rw [e1] at hq;exact ⟨i,hq,Iff.rfl⟩
  . rw [e1,insAt' _ _ _ _ hle] at hq
    have:=hpf.ins
    by_cases hi:i < k
    . rw [if_pos hi] at hq;exact ⟨i,hq,Iff.rfl⟩
    . rw [if_neg hi,if_neg hik] at hq;exact ⟨i - 1,hq,by omega⟩
 have hpevs:p ∈ r.ps\/p.evs=[]:=by
  rcases hpf.how with e1 | ⟨hle,_,_,e1⟩
  . rw [e1] at hp;exact .inl (List.mem_of_getElem? hp)
  . rw [e1,insAt' _ _ _ _ hle] at hp
    simp at hp
    subst hp;exact .inr rfl
 have hget:∀ (i:Nat) q,r'.ps[i]?=some q->(i=k/\q=⟨p.first,p.last,p.evs++[e]⟩)\/(i ≠ k/\r1.ps[i]?=some q):=by
  intro i q hq
  rw [hps,set_at _ _ _ _ hk1] at hq
  by_cases hik:i=k
  . rw [if_pos hik] at hq;cases hq;exact .inl ⟨hik,rfl⟩
  . rw [if_neg hik] at hq;exact .inr ⟨hik,hq⟩
 have hsame:∀ (i:Nat) q,r'.ps[i]?=some q->∃ q1,r1.ps[i]?=some q1/\q1.first=q.first/\q1.last=q.last:=by
  intro i q hq
  rcases hget i q hq with ⟨rfl,rfl⟩ | ⟨_,h1⟩
  . exact ⟨p,hp,rfl,rfl⟩
  . exact ⟨q,h1,rfl,rfl⟩
 have hk':r'.ps[k]?=some ⟨p.first,p.last,p.evs++[e]⟩:=by rw [hps,set_at _ _ _ _ hk1,if_pos rfl]
 have hlen1:r.ps.length<=r1.ps.length:=by
  rcases hpf.how with e1 | ⟨hle,_,_,e1⟩
  . rw [e1];exact Nat.le_refl _
  . rw [e1,(ins_perm r.ps k _).length_eq];simp
 have hperm1:evsOf r1.ps=evsOf r.ps:=by
  rcases hpf.how with e1 | ⟨hle,_,_,e1⟩
  . rw [e1]
  . rw [e1,evsOf_ins]
 have hins1:∀ q ∈ r.ps,∃ q1 ∈ r1.ps,q1=q:=by
  intro q hq
  rcases hpf.how with e1 | ⟨hle,_,_,e1⟩
  . rw [e1];exact ⟨q,hq,rfl⟩
  . rw [e1];exact ⟨q,(ins_perm r.ps k _).mem_iff.2 (by simp [hq]),rfl⟩
 refine ⟨⟨?_,?_,?_,?_,?_,?_,?_⟩,?_,?_,?_,?_,?_⟩
 . intro h0;rw [h0] at hk';simp at hk'
 . intro i j a b hij ha' hb'
   obtain ⟨a1,h1,e1,e2⟩:=hsame i a ha'
   obtain ⟨b1,h2,e3,e4⟩:=hsame j b hb'
   have:=hs1 i j a1 b1 hij h1 h2
   rw [e1,e2,e3,e4] at this
   exact this
 . intro q hq
   obtain ⟨i,hi,rfl⟩:=List.mem_iff_getElem.1 hq
   rcases hget i _ (List.getElem?_eq_getElem hi) with ⟨_,e1⟩ | ⟨hik,h1⟩
   . rw [e1]
     refine ⟨by simp,fun x hx=>?_⟩
     simp only [List.mem_append,List.mem_singleton] at hx
     rcases hx with hx | rfl
     . rcases hpevs with hm | h0
       . have:=(h.pane p hm).2 x hx
         rw [ha.key];exact this
       . rw [h0] at hx;simp at hx
     . exact ⟨by rw [ha.key];exact hkey.symm,hf.symm,hl.symm⟩
   . obtain ⟨j,hj,_⟩:=hat i _ h1 hik
     have:=h.pane _ (List.mem_of_getElem? hj)
     rw [ha.key];exact this
 . intro q hq
   obtain ⟨i,hi,rfl⟩:=List.mem_iff_getElem.1 hq
   rcases hget i _ (List.getElem?_eq_getElem hi) with ⟨_,e1⟩ | ⟨hik,h1⟩
   . rw [e1]
     exact hb.not (by simp only;rw [hl];omega)
   . obtain ⟨j,hj,_⟩:=hat i _ h1 hik
     exact h.rem _ (List.mem_of_getElem? hj)
 . intro i q hq
   rw [ha.inside]
   rcases hget i q hq with ⟨rfl,rfl⟩ | ⟨hik,h1⟩
   . have hn:toldB T (p.first+size)=false:=hb.not (by rw [hf];omega)
     simp only [hn]
     have:=hpf.ins
     constructor
     . intro hlt;omega
     . intro hh;cases hh
   . obtain ⟨j,hj,hji⟩:=hat i q h1 hik
     rw [hji];exact h.ins j q hj
 . rw [ha.inside,hps,List.length_set]
   have:=h.insLe;omega
 . rw [ha.inside,ha.next];exact h.nxt
 . rw [hps]
   exact (evsOf_set r1.ps k p e hp).trans (by rw [hperm1])
 . intro q hq
   obtain ⟨i,hi,rfl⟩:=List.mem_iff_getElem.1 hq
   rcases hget i _ (List.getElem?_eq_getElem hi) with ⟨_,e1⟩ | ⟨hik,h1⟩
   . left;rw [e1];exact hf
   . obtain ⟨j,hj,_⟩:=hat i _ h1 hik
     right;exact ⟨_,List.mem_of_getElem? hj,rfl⟩
 . exact ⟨_,List.mem_of_getElem? hk',hl⟩
 . exact ⟨_,List.mem_of_getElem? hk',hl⟩
 . intro q hq
   obtain ⟨q1,hq1,rfl⟩:=hins1 q hq
   obtain ⟨i,hi,rfl⟩:=List.mem_iff_getElem.1 hq1
   by_cases hik:i=k
   . subst hik
     refine ⟨_,List.mem_of_getElem? hk',?_⟩
     have:=(List.getElem?_eq_getElem hi).symm.trans hp
     simp only [Option.some.injEq] at this
     rw [this]
   . refine ⟨r1.ps[i],List.mem_of_getElem? (i:=i) ?_,rfl⟩
     rw [hps,set_at _ _ _ _ hk1,if_neg hik];exact List.getElem?_eq_getElem hi
theorem Mod.congr {st st':St} {E:List Ev} (h:Mod st E T) (h1:st'.size=st.size) (h2:st'.slide=st.slide) (h3:st'.late=st.late) (h4:st'.keys=st.keys) (h5:st'.lt=st.lt) (h6:st'.li=st.li) (h7:st'.gs=st.gs) (h8:st'.es=st.es):Mod st' E T:=by
 have c:=h.conf
 refine ⟨⟨by rw [h2];exact c.s1,by rw [h1,h2];exact c.s2,by rw [h1];exact c.s3,by rw [h3];exact c.l1,by rw [h3];exact c.l2,by rw [h4];exact c.k1,by rw [h4];exact c.k2⟩,by rw [h7];exact h.gsK,by rw [h7,h4];exact h.gsLen,by rw [h7,h8,h1,h2];exact h.good,by rw [h7,h8,h1,h2];exact h.perm,by rw [h7,h8];exact h.order,by rw [h7,h6,h5,h1];exact h.gsU,by rw [h8,h6,h5,h1];exact h.esF,by rw [h6,h5];exact h.told,h.evs⟩
theorem Mod.keep {st:St} {E:List Ev} {e:Ev} {gs':List RunS} (h:Mod st E T) (he:evOk e) (hl:¬ (st.li=true/\e.t < st.lt)) (hfull:¬ evFull st.keys st.gs e) (hk:KeepRel st.gs gs' e (winFirst st.size st.slide e.t) (winLast st.slide e.t)) :
 Mod { st with gs:=gs' } (E++[e]) T:=by
 obtain ⟨pre,r,post,r',hgs',hkey,hadd,hcase⟩:=hk
 have c1:=h.conf.s1
 have c2:=h.conf.s2
 have hb:Behind T e.t:=fun u hu=>by
  obtain ⟨l1,l2⟩:=h.told u hu
  have:¬ e.t < st.lt:=fun hh=>hl ⟨l1,hh⟩
  omega
 have hpre:RunPre st.size st.slide T r:=by
  rcases hcase with e1 | ⟨_,_,_,e2⟩
  . exact (h.good r (by rw [e1];simp)).pre
  . rw [e2];exact RunPre.new _ _ _ _
 obtain ⟨hgood,hperm,hfirst,-,hlast1,hlast2⟩:=good_add c1 c2 hpre hkey hb hadd
 have hF:=winFirst_gt st.size st.slide e.t c1
 have hL:=winLast_le st.slide e.t c1
 have hkey':r'.key=e.key:=hadd.key.trans hkey
 have hother:∀ x,x ∈ pre\/x ∈ post->x.key ≠ e.key:=fun x hx=>by
  rcases hcase with e1 | ⟨hn,e1,e2,_⟩
  . have hnd:=h.gsK
    rw [e1,List.map_append,List.map_cons,(List.perm_middle).nodup_iff,List.nodup_cons] at hnd
    intro hxk
    apply hnd.1
    rw [hkey,<- hxk,<- List.map_append]
    exact List.mem_map_of_mem (by rcases hx with hx | hx <;> simp [hx])
  . rcases hx with hx | hx
    . exact hn x (by rw [e1];exact hx)
    . rw [e2] at hx;simp at hx
 have hold:∀ x,x ∈ pre\/x ∈ post->x ∈ st.gs:=fun x hx=>by
  rcases hcase with e1 | ⟨_,e1,e2,_⟩
  . rw [e1];rcases hx with hx | hx <;> simp [hx]
  . rcases hx with hx | hx
    . rw [e1];exact hx
    . rw [e2] at hx;simp at hx
 have hmem:∀ x,x ∈ gs'->x=r'\/(x ∈ pre\/x ∈ post):=fun x hx=>by
  rw [hgs'] at hx
  simp only [List.mem_append,List.mem_cons] at hx
  rcases hx with hx | hx | hx
  . exact .inr (.inl hx)
  . exact .inl hx
  . exact .inr (.inr hx)
 refine ⟨⟨h.conf.s1,h.conf.s2,h.conf.s3,h.conf.l1,h.conf.l2,h.conf.k1,h.conf.k2⟩,?_,?_,?_,?_,?_,?_,h.esF,h.told,?_⟩
 . show (gs'.map RunS.key).Nodup
   rcases hcase with e1 | ⟨hn,e1,e2,_⟩
   . have e3:gs'.map RunS.key=st.gs.map RunS.key:=by rw [hgs',e1];simp [hadd.key]
     rw [e3];exact h.gsK
   . rw [hgs',e2,List.map_append,List.map_cons,(List.perm_middle).nodup_iff,List.nodup_cons,List.map_nil,List.append_nil]
     refine ⟨fun hm=>?_,by rw [<- e1];exact h.gsK⟩
     obtain ⟨x,hx,hxk⟩:=List.mem_map.1 hm
     exact hother x (.inl hx) (hxk.trans hkey')
 . show (gs'.length:Int)<=st.keys
   rcases hcase with e1 | ⟨hn,e1,e2,_⟩
   . have e3:gs'.length=st.gs.length:=by rw [hgs',e1];simp
     rw [e3];exact h.gsLen
   . have e3:gs'.length=st.gs.length+1:=by rw [hgs',e2,e1];simp
     have:¬ st.keys<=(st.gs.length:Int):=fun hh=>hfull ⟨hh,hn⟩
     omega
 . intro x hx
   rcases List.mem_append.1 hx with hx | hx
   . exact h.good x (by simp [hx])
   . rcases hmem x hx with rfl | hx
     . exact hgood
     . exact h.good x (by simp [hold x hx])
 . have hun:untold T st.size st.slide (E++[e])=untold T st.size st.slide E++[e]:=by
    unfold untold
    rw [List.filter_append]
    have:toldB T (winLast st.slide e.t+st.size)=false:=hb.not (by omega)
    simp [this]
   show (runEvs (st.es++gs')).Perm (untold T st.size st.slide (E++[e]))
   rw [hun]
   have p1:(runEvs (st.es++gs')).Perm (e :: runEvs (st.es++st.gs)):=by
    have q:(runEvs gs').Perm (e :: runEvs st.gs):=by
     rw [hgs',runEvs_append,runEvs_cons]
     have q1:(runEvs pre++(evsOf r'.ps++runEvs post)).Perm (runEvs pre++(e :: (evsOf r.ps++runEvs post))):=List.Perm.append_left _ (List.Perm.append_right _ hperm)
     refine q1.trans (List.perm_middle.trans (List.Perm.cons e ?_))
     rcases hcase with e1 | ⟨_,e1,e2,e3⟩
     . rw [e1,runEvs_append,runEvs_cons]
     . rw [e1,e2,e3];simp [evsOf,runEvs]
    rw [runEvs_append,runEvs_append]
    exact (List.Perm.append_left _ q).trans List.perm_middle
   exact p1.trans ((List.Perm.cons e h.perm).trans (List.perm_append_comm (l₁:=[e])))
 . show (st.es++gs').Pairwise RunLt
   have ho:=h.order
   rw [List.pairwise_append] at ho ⊢
   obtain ⟨o1,o2,o3⟩:=ho
   have hlt:∀ x ∈ st.es,RunLt x r':=fun x hx hxk p hp p' hp'=>by
    rcases hfirst p' hp' with hf | ⟨q,hq,hqf⟩
    . obtain ⟨f1,f2⟩:=h.esF x hx
      have:=f2 p hp
      have:¬ e.t < st.lt:=fun hh=>hl ⟨f1,hh⟩
      omega
    . rcases hcase with e1 | ⟨_,_,_,e3⟩
      . have hr:r ∈ st.gs:=by rw [e1];simp
        have:=o3 x hx r hr (by rw [hxk,hkey',hkey]) p hp q hq
        omega
      . rw [e3] at hq;simp at hq
   have hgg:gs'.Pairwise RunLt:=by
    rw [hgs',List.pairwise_append]
    have hpp:pre.Pairwise RunLt/\post.Pairwise RunLt/\∀ a ∈ pre,∀ b ∈ post,RunLt a b:=by
     rcases hcase with e1 | ⟨_,e1,e2,_⟩
     . rw [e1,List.pairwise_append] at o2
       obtain ⟨a1,a2,a3⟩:=o2
       rw [List.pairwise_cons] at a2
       exact ⟨a1,a2.2,fun a ha b hb=>a3 a ha b (by simp [hb])⟩
     . rw [e1] at o2
       rw [e2]
       exact ⟨o2,List.Pairwise.nil,fun a _ b hb=>by simp at hb⟩
    refine ⟨hpp.1,?_,fun a ha b hb=>?_⟩
    . rw [List.pairwise_cons]
      exact ⟨fun y hy hyk=>absurd (hyk.symm.trans hkey') (hother y (.inr hy)),hpp.2.1⟩
    . rcases List.mem_cons.1 hb with rfl | hb
      . exact fun hak=>absurd (hak.trans hkey') (hother a (.inl ha))
      . exact hpp.2.2 a ha b hb
   refine ⟨o1,hgg,fun x hx y hy=>?_⟩
   rcases hmem y hy with rfl | hy
   . exact hlt x hx
   . exact o3 x hx y (hold y hy)
 . intro x hx
   rcases hmem x hx with rfl | hx
   . obtain ⟨p',hp',hpl⟩:=hlast1
     refine ⟨p',hp',?_⟩
     show st.li=false\/st.lt < p'.last+st.size
     by_cases hli:st.li=true
     . right
       have:¬ e.t < st.lt:=fun hh=>hl ⟨hli,hh⟩
       omega
     . left;simpa using hli
   . exact h.gsU x (hold x hx)
 . intro x hx
   rcases List.mem_append.1 hx with hx | hx
   . exact h.evs x hx
   . simp at hx;subst hx;exact he
end Go.Proofs.YtcfngdnmpogaoaaGreat
namespace Go.Proofs.YtcfngdnmpogaoaaGreat
open Go.RowKit
variable {E:List Ev} {T:Option Int} {st:St}
def leastStepS (m:Int × Bool) (s:SrcS):Int × Bool:=if s.is && (!m.2 || decide (s.time < m.1)) then (s.time,true) else m
def leastS (l:List SrcS):Int × Bool:=l.foldl leastStepS (0,false)
theorem leastF_S (l:List SSrc):leastF l=leastS (l.map srcS):=by
 unfold leastF leastS
 rw [List.foldl_map];rfl
def St.setLine (st:St) (t:Int):St:={ st with lt:=t,li:=true,gs:=st.gs.filter (fun r=>!pastRun st.size t r),es:=st.es++st.gs.filter (fun r=>pastRun st.size t r) }
def lineF (late:Int) (src:List SrcS) (lt:Int) (li:Bool):Int × Bool:=
 if (leastS src).2 then (if li=false\/lt < (leastS src).1 - late then (leastS src).1 - late else lt,true) else (lt,li)
def St.moved (st:St):St:=if (leastS st.src).2 then st.setLine (lineF st.late st.src st.lt st.li).1 else st
theorem filter_part {α:Type} (p:α->Bool) (l:List α):(l.filter p++l.filter (fun x=>!p x)).Perm l:=List.filter_append_perm p l
theorem Mod.move (h:Mod st E T) (t:Int) (ht:st.li=true->st.lt<=t):Mod (st.setLine t) E T:=by
 have hmem:∀ x,x ∈ (st.setLine t).es++(st.setLine t).gs->x ∈ st.es++st.gs:=fun x hx=>by
  simp only [St.setLine,List.mem_append,List.mem_filter] at hx ⊢
  rcases hx with (hx | hx) | hx
  . exact .inl hx
  . exact .inr hx.1
  . exact .inr hx.1
 have hkeys:∀ x ∈ st.gs,∀ y ∈ st.gs,pastRun st.size t x ≠ pastRun st.size t y->x.key ≠ y.key:=fun x hx y hy hne hk=>by
  have:=(List.pairwise_map.1 (List.nodup_iff_pairwise_ne.1 h.gsK))
  obtain ⟨i,hi,rfl⟩:=List.mem_iff_getElem.1 hx
  obtain ⟨j,hj,rfl⟩:=List.mem_iff_getElem.1 hy
  rw [List.pairwise_iff_getElem] at this
  rcases Nat.lt_trichotomy i j with hl | hl | hl
  . exact this i j hi hj hl hk
  . subst hl;exact hne rfl
  . exact this j i hj hi hl hk.symm
 refine ⟨⟨h.conf.s1,h.conf.s2,h.conf.s3,h.conf.l1,h.conf.l2,h.conf.k1,h.conf.k2⟩,?_,?_,fun x hx=>h.good x (hmem x hx),?_,?_,?_,?_,?_,h.evs⟩
 . exact List.Sublist.nodup (List.Sublist.map _ List.filter_sublist) h.gsK
 . have:=List.length_filter_le (fun r=>!pastRun st.size t r) st.gs
   have:=h.gsLen
   show ((st.gs.filter (fun r=>!pastRun st.size t r)).length:Int)<=st.keys
   omega
 . show (runEvs ((st.es++st.gs.filter (fun r=>pastRun st.size t r))++st.gs.filter (fun r=>!pastRun st.size t r))).Perm _
   refine List.Perm.trans ?_ h.perm
   rw [List.append_assoc]
   exact List.Perm.flatMap_right _ (List.Perm.append_left _ (filter_part _ _))
 . show ((st.es++st.gs.filter (fun r=>pastRun st.size t r))++st.gs.filter (fun r=>!pastRun st.size t r)).Pairwise RunLt
   have ho:=h.order
   rw [List.pairwise_append] at ho
   obtain ⟨o1,o2,o3⟩:=ho
   rw [List.append_assoc,List.pairwise_append,List.pairwise_append]
   refine ⟨o1,⟨o2.sublist List.filter_sublist,o2.sublist List.filter_sublist,fun x hx y hy hk=>?_⟩,fun x hx y hy=>?_⟩
   . rw [List.mem_filter] at hx hy
     refine absurd hk (hkeys x hx.1 y hy.1 ?_)
     rw [hx.2]
     intro hh
     have:=hy.2
     rw [<- hh] at this
     simp at this
   . refine o3 x hx y ?_
     rcases List.mem_append.1 hy with hy | hy
     . exact (List.mem_filter.1 hy).1
     . exact (List.mem_filter.1 hy).1
 . intro x hx
   have hx':=List.mem_filter.1 (show x ∈ st.gs.filter (fun r=>!pastRun st.size t r) from hx)
   have hg:=h.good x (by simp [hx'.1])
   obtain ⟨p,hp⟩:∃ p,x.ps.getLast?=some p:=⟨_,List.getLast?_eq_some_getLast hg.ne⟩
   have:=hx'.2
   simp only [pastRun,hp,Bool.not_eq_true',decide_eq_false_iff_not,Int.not_le] at this
   exact ⟨p,List.mem_of_getLast? hp,.inr this⟩
 . intro x hx
   refine ⟨rfl,fun p hp=>?_⟩
   show p.last+st.size<=t
   rcases List.mem_append.1 (show x ∈ st.es++st.gs.filter (fun r=>pastRun st.size t r) from hx) with hx | hx
   . obtain ⟨f1,f2⟩:=h.esF x hx
     have:=f2 p hp
     have:=ht f1
     omega
   . have hx':=List.mem_filter.1 hx
     have hg:=h.good x (by simp [hx'.1])
     obtain ⟨q,hq⟩:∃ q,x.ps.getLast?=some q:=⟨_,List.getLast?_eq_some_getLast hg.ne⟩
     have:=hx'.2
     simp only [pastRun,hq,decide_eq_true_eq] at this
     obtain ⟨i,hi,rfl⟩:=List.mem_iff_getElem.1 hp
     rw [List.getLast?_eq_getElem?] at hq
     have:=(pane_le hg h.conf.s1 (show i<=x.ps.length - 1 by omega) (List.getElem?_eq_getElem hi) hq).2
     omega
 . intro u hu
   obtain ⟨l1,l2⟩:=h.told u hu
   refine ⟨rfl,?_⟩
   show u<=t
   have:=ht l1
   omega
theorem Mod.moved (h:Mod st E T):Mod st.moved E T:=by
 unfold St.moved
 split
 . rename_i h2
   refine h.move _ (fun hli=>?_)
   unfold lineF
   rw [if_pos h2]
   simp only
   split
   . rename_i h3
     rcases h3 with h3 | h3
     . rw [hli] at h3;cases h3
     . omega
   . omega
 . exact h
def behind (size slide lt:Int) (li:Bool) (e:Ev):Bool:=li && decide (winLast slide e.t+size<=lt)
theorem Mod.going (h:Mod st E T) (key:ByteArray):(∃ r ∈ st.gs,r.key=key) ↔ ∃ e ∈ E,e.key=key/\behind st.size st.slide st.lt st.li e=false:=by
 constructor
 . rintro ⟨r,hr,rfl⟩
   obtain ⟨p,hp,hu⟩:=h.gsU r hr
   obtain ⟨p1,p2⟩:=(h.good r (by simp [hr])).pane p hp
   obtain ⟨e,he⟩:=List.exists_mem_of_ne_nil _ p1
   obtain ⟨k1,k2,k3⟩:=p2 e he
   refine ⟨e,h.mem (by simp [hr]) hp he,k1,?_⟩
   unfold behind
   rw [k3]
   rcases hu with hu | hu
   . rw [hu];rfl
   . rw [decide_eq_false (by omega)];simp
 . rintro ⟨e,he,rfl,hb⟩
   have hun:toldB T (winLast st.slide e.t+st.size)=false:=by
    cases hT:T with
    | none=>rfl
    | some u=>
      obtain ⟨l1,l2⟩:=h.told u hT
      unfold behind at hb
      rw [l1] at hb
      simp only [Bool.true_and,decide_eq_false_iff_not] at hb
      simp only [toldB,decide_eq_false_iff_not]
      omega
   have hm:=h.perm.mem_iff.2 (List.mem_filter.2 ⟨he,by simp [hun]⟩)
   obtain ⟨r,hr,hre⟩:=List.mem_flatMap.1 hm
   obtain ⟨p,hp,hpe⟩:=List.mem_flatMap.1 hre
   obtain ⟨k1,k2,k3⟩:=((h.good r hr).pane p hp).2 e hpe
   rcases List.mem_append.1 hr with hr | hr
   . obtain ⟨f1,f2⟩:=h.esF r hr
     have:=f2 p hp
     unfold behind at hb
     rw [f1] at hb
     simp only [Bool.true_and,decide_eq_false_iff_not] at hb
     omega
   . exact ⟨r,hr,k1.symm⟩
def goKeys (size slide lt:Int) (li:Bool) (E:List Ev):List ByteArray:=E.foldl (fun ks e=>if behind size slide lt li e || ks.any (fun k=>keyEq k e.key) then ks else ks++[e.key]) []
theorem goKeys_snoc (size slide lt:Int) (li:Bool) (E:List Ev) (e:Ev):goKeys size slide lt li (E++[e])=if behind size slide lt li e || (goKeys size slide lt li E).any (fun k=>keyEq k e.key) then goKeys size slide lt li E else goKeys size slide lt li E++[e.key]:=by
 unfold goKeys;rw [List.foldl_append];rfl
end Go.Proofs.YtcfngdnmpogaoaaGreat
namespace Go.Proofs.YtcfngdnmpogaoaaGreat
open Go.RowKit
variable {E:List Ev} {T:Option Int}
theorem snoc_ind {α:Type} {P:List α->Prop} (nil:P []) (snoc:∀ l a,P l->P (l++[a])) (l:List α):P l:=by
 rw [<- l.reverse_reverse]
 induction l.reverse with
 | nil=>exact nil
 | cons a l ih=>rw [List.reverse_cons];exact snoc _ _ ih
theorem nodup_le {l m:List ByteArray} (h1:l.Nodup) (h:∀ k,k ∈ l->k ∈ m):l.length<=m.length:=by
 induction l generalizing m with
 | nil=>simp
 | cons a l ih=>
   obtain ⟨x,y,rfl⟩:=List.append_of_mem (h a (by simp))
   rw [List.nodup_cons] at h1
   have:=ih (m:=x++y) h1.2 (fun k hk=>by
    have hk2:=h k (by simp [hk])
    simp only [List.mem_append,List.mem_cons] at hk2 ⊢
    rcases hk2 with h2 | h2 | h2
    . exact .inl h2
    . subst h2;exact absurd hk h1.1
    . exact .inr h2)
   simp at this ⊢;omega
theorem goKeys_mem (size slide lt:Int) (li:Bool) (E:List Ev) (k:ByteArray):k ∈ goKeys size slide lt li E ↔ ∃ e ∈ E,e.key=k/\behind size slide lt li e=false:=by
 induction E using snoc_ind with
 | nil=>simp [goKeys]
 | snoc E e ih=>
   rw [goKeys_snoc]
   have hm:(∃ x ∈ E++[e],x.key=k/\behind size slide lt li x=false) ↔ (k ∈ goKeys size slide lt li E\/e.key=k/\behind size slide lt li e=false):=by
    rw [ih]
    simp only [List.mem_append,List.mem_singleton]
    constructor
    . rintro ⟨x,hx | rfl,h1,h2⟩
      . exact .inl ⟨x,hx,h1,h2⟩
      . exact .inr ⟨h1,h2⟩
    . rintro (⟨x,hx,h1,h2⟩ | ⟨h1,h2⟩)
      . exact ⟨x,.inl hx,h1,h2⟩
      . exact ⟨e,.inr rfl,h1,h2⟩
   rw [hm]
   cases hb:behind size slide lt li e with
   | true=>simp
   | false=>
     cases ha:(goKeys size slide lt li E).any (fun k=>keyEq k e.key) with
     | true=>
       simp only [Bool.or_true,if_true,and_true]
       constructor
       . exact .inl
       . rintro (h | h)
         . exact h
         . obtain ⟨y,hy,he⟩:=List.any_eq_true.1 ha
           rw [keyEq_iff] at he
           rw [<- h,<- he];exact hy
     | false=>simp [eq_comm]
theorem goKeys_nodup (size slide lt:Int) (li:Bool) (E:List Ev):(goKeys size slide lt li E).Nodup:=by
 induction E using snoc_ind with
 | nil=>simp [goKeys]
 | snoc E e ih=>
   rw [goKeys_snoc]
   split
   . exact ih
   . rename_i h
     simp only [Bool.or_eq_true,not_or,Bool.not_eq_true] at h
     rw [(List.perm_append_comm).nodup_iff,List.singleton_append,List.nodup_cons]
     refine ⟨fun hm=>?_,ih⟩
     have:=List.any_eq_false.1 h.2 _ hm
     rw [Bool.not_eq_true,keyEq_false] at this
     exact this rfl
theorem perm_of_nodup {l m:List ByteArray} (h1:l.Nodup) (h2:m.Nodup) (h:∀ k,k ∈ l ↔ k ∈ m):l.length=m.length:=Nat.le_antisymm (nodup_le h1 (fun k hk=>(h k).1 hk)) (nodup_le h2 (fun k hk=>(h k).2 hk))
theorem Mod.goLen {st:St} (h:Mod st E T):st.gs.length=(goKeys st.size st.slide st.lt st.li E).length:=by
 have:=perm_of_nodup h.gsK (goKeys_nodup st.size st.slide st.lt st.li E) (fun k=>by
  rw [goKeys_mem,<- h.going k,List.mem_map])
 simpa using this
structure Cf where
 size:Int
 slide:Int
 late:Int
 keys:Int
structure Sp where
 src:List SrcS
 E:List Ev
 lt:Int
 li:Bool
 n:RCounts
def cfOf (st:St):Cf:=⟨st.size,st.slide,st.late,st.keys⟩
def spOf (st:St) (E:List Ev):Sp:=⟨st.src,E,st.lt,st.li,st.n⟩
def Sp.line (c:Cf) (s:Sp):Sp:={ s with lt:=(lineF c.late s.src s.lt s.li).1,li:=(lineF c.late s.src s.lt s.li).2 }
def raisedS (x:Int) (s:SrcS):SrcS:=if s.is=false\/s.time < x then ⟨s.opened,s.broken,x,true⟩ else s
def Sp.raise (s:Sp) (n:Nat) (t:Int):Sp:={ s with src:=s.src.modify n (raisedS t) }
def Sp.isGo (c:Cf) (s:Sp) (key:ByteArray):Bool:=s.E.any fun e=>!behind c.size c.slide s.lt s.li e && keyEq e.key key
def Sp.many (c:Cf) (s:Sp):Nat:=(goKeys c.size c.slide s.lt s.li s.E).length
def outB (e:Ev):Bool:=decide (e.t < -2305843009213693952) || decide (2305843009213693952 < e.t)
def Sp.mark0 (s:Sp) (n:Nat) (t:Int):Sp:=({ s with n:={ s.n with marks:=wrap64 (s.n.marks+1) } }:Sp).raise n (clampT t)
def Sp.event0 (c:Cf) (s:Sp) (n:Nat) (e:Ev):Sp:=
 if outB e then { s with n:={ s.n with range:=wrap64 (s.n.range+1) } }
 else if s.li && decide (e.t < s.lt) then ({ s with n:={ s.n with late:=wrap64 (s.n.late+1) } }:Sp).raise n e.t
 else if !s.isGo c e.key && decide (c.keys<=(s.many c:Int)) then { s with n:={ s.n with full:=wrap64 (s.n.full+1) } }
 else ({ s with E:=s.E++[e],n:={ s.n with taken:=wrap64 (s.n.taken+1) } }:Sp).raise n e.t
theorem Mod.full {st:St} (h:Mod st E T) (e:Ev):evFull st.keys st.gs e ↔ (!(spOf st E).isGo (cfOf st) e.key && decide ((cfOf st).keys<=((spOf st E).many (cfOf st):Int)))=true:=by
 have hm:((spOf st E).many (cfOf st))=st.gs.length:=h.goLen.symm
 rw [hm]
 have hg:=h.going e.key
 have hi:(spOf st E).isGo (cfOf st) e.key=true ↔ ∃ r ∈ st.gs,r.key=e.key:=by
  rw [hg]
  unfold Sp.isGo
  rw [List.any_eq_true]
  constructor
  . rintro ⟨x,hx,he⟩
    simp only [Bool.and_eq_true,Bool.not_eq_true',keyEq_iff] at he
    exact ⟨x,hx,he.2,he.1⟩
  . rintro ⟨x,hx,h1,h2⟩
    refine ⟨x,hx,?_⟩
    simp only [Bool.and_eq_true,Bool.not_eq_true',keyEq_iff]
    exact ⟨h2,h1⟩
 unfold evFull
 simp only [Bool.and_eq_true,Bool.not_eq_true',decide_eq_true_eq]
 rw [<- Bool.not_eq_true,hi]
 show (st.keys<=_/\_) ↔ (_/\st.keys<=_)
 constructor
 . rintro ⟨h1,h2⟩
   exact ⟨fun ⟨r,hr,hk⟩=>h2 r hr hk,h1⟩
 . rintro ⟨h1,h2⟩
   exact ⟨h2,fun r hr hk=>h1 ⟨r,hr,hk⟩⟩
theorem srcS_raised (s:SSrc) (t:Int):srcS (s.raised t)=raisedS t (srcS s):=by
 unfold SSrc.raised raisedS srcS
 by_cases h:s.is=false\/s.time < t <;> simp [h]
theorem src_set (l:List SSrc) (n:Nat) (s:SSrc) (f:SrcS->SrcS) (s':SSrc) (h:l[n]?=some s) (he:srcS s'=f (srcS s)):(l.set n s').map srcS=(l.map srcS).modify n f:=by
 refine List.ext_getElem? (fun i=>?_)
 rw [List.getElem?_map,List.getElem?_set,List.getElem?_modify,List.getElem?_map]
 by_cases hi:n=i
 . subst hi
   have hl:n < l.length:=(List.getElem?_eq_some_iff.1 h).1
   rw [if_pos rfl,if_pos hl,h];simp [he]
 . simp [hi]
theorem outB_iff (e:Ev):outB e=true ↔ evOut e:=by unfold outB evOut;simp
theorem evRel_sp {r r':SCells} {gs gs' es:List RunX} {n:Nat} {s:SSrc} {e:Ev} (h:EvRel r (rsOf gs) n s e r' (rsOf gs')) (hs:r.src[n]?=some s) (hm:Mod (stOf r gs es) E T) (he:e.fits) :
 ∃ E',Mod (stOf r' gs' es) E' T/\spOf (stOf r' gs' es) E'=Sp.event0 (cfOf (stOf r gs es)) (spOf (stOf r gs es) E) n e/\cfOf (stOf r' gs' es)=cfOf (stOf r gs es)/\r'.lk=r.lk/\r'.src.map SSrc.unread=r.src.map SSrc.unread/\E'.length<=E.length+1:=by
 have hsame:∀ t:Int,(s.raised t).unread=s.unread:=fun t=>by unfold SSrc.raised;split <;> rfl
 have hun:∀ t:Int,(r.src.set n (s.raised t)).map SSrc.unread=r.src.map SSrc.unread:=fun t=>by
  refine List.ext_getElem? (fun i=>?_)
  rw [List.getElem?_map,List.getElem?_set,List.getElem?_map]
  by_cases hi:n=i
  . subst hi
    have hl:n < r.src.length:=(List.getElem?_eq_some_iff.1 hs).1
    rw [if_pos rfl,if_pos hl,hs];simp [hsame]
  . simp [hi]
 have hset:∀ t:Int,(r.src.set n (s.raised t)).map srcS=(r.src.map srcS).modify n (raisedS t):=fun t=>src_set r.src n s _ _ hs (srcS_raised s t)
 have hfull:=hm.full e
 have hlateB:((spOf (stOf r gs es) E).li && decide (e.t < (spOf (stOf r gs es) E).lt))=true ↔ evLate r e:=by
  unfold evLate
  rw [Bool.and_eq_true,decide_eq_true_eq];rfl
 unfold Sp.event0
 rcases h with ⟨h1,rfl,hgs⟩ | ⟨h1,h2,rfl,hgs⟩ | ⟨h1,h2,h3,rfl,hgs⟩ | ⟨h1,h2,h3,⟨gv,rfl⟩,hk⟩
 . refine ⟨E,hm.congr rfl rfl rfl rfl rfl rfl hgs rfl,?_,rfl,rfl,rfl,by omega⟩
   rw [if_pos ((outB_iff e).2 h1)]
   rfl
 . refine ⟨E,hm.congr rfl rfl rfl rfl rfl rfl hgs rfl,?_,rfl,rfl,hun _,by omega⟩
   rw [if_neg (fun hh=>h1 ((outB_iff e).1 hh)),if_pos (hlateB.2 h2)]
   unfold spOf Sp.raise stOf
   simp only [Sp.mk.injEq,true_and]
   exact ⟨hset e.t,rfl,rfl,rfl⟩
 . refine ⟨E,hm.congr rfl rfl rfl rfl rfl rfl hgs rfl,?_,rfl,rfl,rfl,by omega⟩
   rw [if_neg (fun hh=>h1 ((outB_iff e).1 hh)),if_neg (fun hh=>h2 (hlateB.1 hh)),if_pos (hfull.1 h3)]
   rfl
 . have hev:evOk e:=by
    refine ⟨he,?_⟩
    unfold evOut at h1
    omega
   refine ⟨E++[e],(hm.keep hev (fun hh=>h2 hh) h3 hk).congr rfl rfl rfl rfl rfl rfl rfl rfl,?_,rfl,rfl,hun _,by simp⟩
   rw [if_neg (fun hh=>h1 ((outB_iff e).1 hh)),if_neg (fun hh=>h2 (hlateB.1 hh)),if_neg (fun hh=>h3 (hfull.2 hh))]
   unfold spOf Sp.raise stOf
   simp only [Sp.mk.injEq,true_and]
   exact ⟨hset e.t,rfl,rfl,rfl⟩
end Go.Proofs.YtcfngdnmpogaoaaGreat
namespace Go.Proofs.YtcfngdnmpogaoaaGreat
open Go.RowKit
variable {E:List Ev} {g:Nat} {r:RCells} {w w':World}
def RCells.head (r:RCells):List Value:=[.int .i64 r.size,.int .i64 r.slide,.int .i64 r.late,.int .i64 r.keys]
def RCells.tail (r:RCells):List Value:=[r.events,.bool r.lined,.int .i64 r.line,r.done]++r.n.cells
theorem RCells.cells_eq (r:RCells):r.cells=r.head++(r.src.flatMap RSrc.cells++r.tail):=by
 simp [RCells.cells,RCells.head,RCells.tail,List.append_assoc]
theorem RF.headAt (h:RF w g r) (k:Nat) {v:Value} (hv:r.head[k]?=some v):w.cell? ⟨g,k,none⟩=some v:=by
 have hk:k < r.head.length:=(List.getElem?_eq_some_iff.1 hv).1
 refine h.cell ?_
 rw [r.cells_eq,List.getElem?_append_left hk];exact hv
theorem RF.tailAt (h:RF w g r) (k:Nat) {v:Value} (hv:r.tail[k]?=some v):w.cell? ⟨g,44+k,none⟩=some v:=by
 have hl:=flat5_length r.src
 rw [h.len] at hl
 have hh:r.head.length=4:=rfl
 refine h.cell ?_
 rw [r.cells_eq,List.getElem?_append_right (by omega),List.getElem?_append_right (by omega),hl,hh,show 44+k - 4 - 5*8=k from by omega];exact hv
theorem RF.putTail {r':RCells} (h:RF w g r) (k:Nat) (v:Value) (h1:r'.head=r.head) (h2:r'.src=r.src) (h3:r'.tail=r.tail.set k v):RF (w.setCell ⟨g,44+k,none⟩ v) g r':=by
 have hl:=flat5_length r.src
 rw [h.len] at hl
 have hh:r.head.length=4:=rfl
 refine h.put _ _ ?_ (by rw [h2];exact h.len)
 rw [r.cells_eq,r'.cells_eq,h1,h2,h3,List.set_append_right _ _ (by omega),List.set_append_right _ _ (by omega),hl,hh,show 44+k - 4 - 5*8=k from by omega]
theorem RF.lt (h:RF w g r):g < w.heap.size:=(Array.getElem?_eq_some_iff.1 h.blk).1
theorem RF.congr (h:RF w g r) (hb:w'.heap[g]?=w.heap[g]?):RF w' g r:=⟨by rw [hb];exact h.blk,h.len⟩
theorem RF.below {B:Nat} (h:RF w g r) (hb:Below B w w') (hg:g < B):RF w' g r:=h.congr (hb.block g hg)
def evCells (e:Ev):List Value:=[.int .i64 1,.string e.key,.int .i64 e.t,.int .i64 e.v,.int .u32 (e.tag:Int)]
theorem evFlat (l:List Ev) (j k:Nat) (e:Ev) (hs:l[j]?=some e) (hk:k < 5):(l.flatMap evCells)[j*5+k]?=(evCells e)[k]?:=by
 induction l generalizing j with
 | nil=>simp at hs
 | cons a l ih=>
   have ha:(evCells a).length=5:=rfl
   cases j with
   | zero=>
     simp at hs
     subst hs
     rw [List.flatMap_cons,List.getElem?_append_left (by omega)]
     simp
   | succ j=>
     simp at hs
     rw [List.flatMap_cons,List.getElem?_append_right (by omega),<- ih j hs]
     congr 1
     omega
theorem evFlat_len (l:List Ev):(l.flatMap evCells).length=5*l.length:=by
 induction l with
 | nil=>rfl
 | cons a l ih=>rw [List.flatMap_cons,List.length_append,ih];simp [evCells];omega
structure REv (w:World) (g:Nat) (r:RCells) (E:List Ev):Prop where
 rf:RF w g r
 ev:Row w 28 5 r.events (E.flatMap evCells)
theorem REv.below (h:REv w g r E) (hb:Below w.heap.size w w'):REv w' g r E:=⟨h.rf.below hb h.rf.lt,h.ev.below hb (fun _ hk=>(h.ev.blk_lt hk).1)⟩
theorem REv.shape (h:REv w g r E):∃ a c,r.events=.slice a E.length c:=by
 rcases h.ev with ⟨h1,h2⟩ | ⟨ge,off,n,cap,cur,h1,_,_,_,_,h6,_⟩
 . have:=congrArg List.length h2
   rw [evFlat_len,List.length_nil] at this
   exact ⟨none,0,by rw [h1,show E.length=0 from by omega]⟩
 . rw [evFlat_len] at h6
   exact ⟨_,cap,by rw [h1,show n=E.length from by omega]⟩
theorem REv.item (h:REv w g r E) {n:Nat} {e:Ev} (hn:E[n]?=some e):∃ ge off cap,r.events=.slice (some ⟨ge,off,none⟩) E.length cap/\ge < w.heap.size /\
 w.cell? ⟨ge,off+n*5,none⟩=some (.int .i64 1)/\w.cell? ⟨ge,off+n*5+1,none⟩=some (.string e.key)/\w.cell? ⟨ge,off+n*5+2,none⟩=some (.int .i64 e.t)/\w.cell? ⟨ge,off+n*5+3,none⟩=some (.int .i64 e.v)/\w.cell? ⟨ge,off+n*5+4,none⟩=some (.int .u32 (e.tag:Int)):=by
 have hnl:n < E.length:=(List.getElem?_eq_some_iff.1 hn).1
 rcases h.ev with ⟨h1,h2⟩ | ⟨ge,off,m,cap,cur,h1,hg,h3,h4,h5,h6,h7⟩
 . have:=congrArg List.length h2
   rw [evFlat_len,List.length_nil] at this
   omega
 . have hlen:=evFlat_len E
   rw [hlen] at h6
   have hm:m=E.length:=by omega
   subst hm
   have hc:∀ k,k < 5->w.cell? ⟨ge,off+n*5+k,none⟩=(evCells e)[k]?:=fun k hk=>by
    rw [<- evFlat E n k e hn hk,<- h7 (n*5+k) (by omega)]
    simp [World.cell?,hg,Nat.add_assoc]
   refine ⟨ge,off,cap,h1,(Array.getElem?_eq_some_iff.1 hg).1,?_⟩
   exact ⟨hc 0 (by omega),hc 1 (by omega),hc 2 (by omega),hc 3 (by omega),hc 4 (by omega)⟩
structure Win where
 key:ByteArray
 start:Int
 cnt:Int
 sum:Int
 lo:Int
 hi:Int
 tags:List Nat
def inWin (key:ByteArray) (s size:Int) (e:Ev):Bool:=keyEq e.key key && (decide (s<=e.t) && decide (e.t<=s+size - 1))
def winStep (key:ByteArray) (s size:Int) (x:Win) (e:Ev):Win:=
 if inWin key s size e then ⟨x.key,x.start,x.cnt+1,wrap64 (x.sum+e.v),if x.cnt=0\/e.v < x.lo then e.v else x.lo,if x.cnt=0\/x.hi < e.v then e.v else x.hi,taggedL x.tags e.tag⟩ else x
def winF (key:ByteArray) (s size:Int) (E:List Ev):Win:=E.foldl (winStep key s size) ⟨key,s,0,0,0,0,[]⟩
theorem winF_snoc (key:ByteArray) (s size:Int) (E:List Ev) (e:Ev):winF key s size (E++[e])=winStep key s size (winF key s size E) e:=by unfold winF;rw [List.foldl_append];rfl
theorem winF_take (key:ByteArray) (s size:Int) (E:List Ev) (n:Nat) (e:Ev) (h:E[n]?=some e):winF key s size (E.take (n+1))=winStep key s size (winF key s size (E.take n)) e:=by
 have hn:n < E.length:=(List.getElem?_eq_some_iff.1 h).1
 have he:E[n]=e:=(List.getElem?_eq_some_iff.1 h).2
 rw [List.take_succ_eq_append_getElem hn,winF_snoc,he]
theorem winF_bound (key:ByteArray) (s size:Int) (E:List Ev):0<=(winF key s size E).cnt/\(winF key s size E).cnt<=E.length/\(winF key s size E).tags.length<=E.length:=by
 induction E using snoc_ind with
 | nil=>simp [winF]
 | snoc E e ih=>
   rw [winF_snoc,List.length_append]
   unfold winStep
   split
   . refine ⟨by simp only;omega,by simp only [List.length_cons,List.length_nil];omega,?_⟩
     have:=tagged_len (winF key s size E).tags e.tag
     simp only [List.length_cons,List.length_nil];omega
   . exact ⟨ih.1,by omega,by omega⟩
end Go.Proofs.YtcfngdnmpogaoaaGreat
