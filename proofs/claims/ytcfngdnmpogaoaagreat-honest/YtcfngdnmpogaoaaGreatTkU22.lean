import Derived.Test.YtcfngdnmpogaoaaGreatTkU16
import Derived.Test.YtcfngdnmpogaoaaGreatTkU14
import Derived.Test.YtcfngdnmpogaoaaGreatTkU21
namespace Go.Proofs.YtcfngdnmpogaoaaGreat
open Go.RowKit
theorem tagStep_there (t a:Nat) (out:List Nat) (h:a ≠ t):tagStep t (out,true) a=(out++[a],true):=by simp [tagStep,h]
theorem tagStep_now (t a:Nat) (out:List Nat) (h:t<=a) (h2:a ≠ t):tagStep t (out,false) a=(out++[t]++[a],true):=by simp [tagStep,h,h2]
theorem tagStep_is (t a:Nat) (out:List Nat) (h2:a=t):tagStep t (out,false) a=(out++[t],true):=by simp [tagStep,h2]
theorem tagStep_not (t a:Nat) (out:List Nat) (h:¬ t<=a):tagStep t (out,false) a=(out++[a],false):=by
 have h2:a ≠ t:=by omega
 simp [tagStep,h,h2]
theorem wrap64_zero':wrap64 0=0:=by unfold wrap64;omega
theorem tagFold_spec (t:Nat) (l:List Nat) (h:l.Pairwise (· < ·)):(tagFold t l).1.Pairwise (· < ·)/\((tagFold t l).2=true ↔ ∃ x ∈ l,t<=x)/\∀ x,x ∈ (tagFold t l).1 ↔ x ∈ l\/((tagFold t l).2=true/\x=t):=by
 induction l using snoc_ind with
 | nil=>simp [tagFold]
 | snoc l a ih=>
   rw [List.pairwise_append] at h
   obtain ⟨h1,-,h3⟩:=h
   have h4:∀ x ∈ l,x < a:=fun x hx=>h3 x hx a (List.mem_singleton.2 rfl)
   obtain ⟨i1,i2,i3⟩:=ih h1
   rw [tagFold_snoc]
   generalize hst:tagFold t l=st at *
   obtain ⟨out,there⟩:=st
   simp only at i1 i2 i3
   cases there with
   | true=>
     obtain ⟨y,hy,hty⟩:=i2.1 rfl
     have hya:=h4 y hy
     have hat:a ≠ t:=by omega
     rw [tagStep_there t a out hat]
     refine ⟨List.pairwise_append.2 ⟨i1,List.pairwise_singleton ..,fun x hx z hz=>?_⟩,?_,fun x=>?_⟩
     . rw [List.mem_singleton.1 hz]
       rcases (i3 x).1 hx with hx | ⟨_,rfl⟩
       . exact h4 x hx
       . omega
     . exact ⟨fun _=>⟨y,List.mem_append_left _ hy,hty⟩,fun _=>rfl⟩
     . rw [List.mem_append,List.mem_append,i3,List.mem_singleton]
       constructor
       . rintro ((h | h) | h)
         . exact .inl (.inl h)
         . exact .inr h
         . exact .inl (.inr h)
       . rintro ((h | h) | h)
         . exact .inl (.inl h)
         . exact .inr h
         . exact .inl (.inr h)
   | false=>
     have hno:∀ x ∈ l,x < t:=fun x hx=>Nat.lt_of_not_le (fun hle=>by have:=i2.2 ⟨x,hx,hle⟩;cases this)
     have hout:∀ x,x ∈ out ↔ x ∈ l:=fun x=>by rw [i3];simp
     by_cases hta:t<=a
     . by_cases hat:a ≠ t
       . rw [tagStep_now t a out hta hat]
         refine ⟨?_,⟨fun _=>⟨a,List.mem_append_right _ (List.mem_singleton.2 rfl),hta⟩,fun _=>rfl⟩,fun x=>?_⟩
         . rw [List.append_assoc]
           refine List.pairwise_append.2 ⟨i1,?_,fun x hx z hz=>?_⟩
           . exact List.pairwise_cons.2 ⟨fun z hz=>by rw [List.mem_singleton.1 hz];omega,List.pairwise_singleton ..⟩
           . have hxt:=hno x ((hout x).1 hx)
             rcases List.mem_cons.1 hz with rfl | hz
             . exact hxt
             . rw [List.mem_singleton.1 hz];omega
         . simp only [List.mem_append,List.mem_singleton,hout]
           constructor
           . rintro ((h | h) | h)
             . exact .inl (.inl h)
             . exact .inr ⟨trivial,h⟩
             . exact .inl (.inr h)
           . rintro ((h | h) | ⟨_,h⟩)
             . exact .inl (.inl h)
             . exact .inr h
             . exact .inl (.inr h)
       . have hat2:a=t:=Classical.not_not.1 hat
         rw [tagStep_is t a out hat2]
         refine ⟨?_,⟨fun _=>⟨a,List.mem_append_right _ (List.mem_singleton.2 rfl),hta⟩,fun _=>rfl⟩,fun x=>?_⟩
         . refine List.pairwise_append.2 ⟨i1,List.pairwise_singleton ..,fun x hx z hz=>?_⟩
           rw [List.mem_singleton.1 hz]
           exact hno x ((hout x).1 hx)
         . simp only [List.mem_append,List.mem_singleton,hout,hat2]
           constructor
           . rintro (h | h)
             . exact .inl (.inl h)
             . exact .inl (.inr h)
           . rintro ((h | h) | ⟨_,h⟩)
             . exact .inl h
             . exact .inr h
             . exact .inr h
     . rw [tagStep_not t a out hta]
       refine ⟨List.pairwise_append.2 ⟨i1,List.pairwise_singleton ..,fun x hx z hz=>?_⟩,⟨fun hh=>(by cases hh),fun ⟨x,hx,hle⟩=>?_⟩,fun x=>?_⟩
       . rw [List.mem_singleton.1 hz];exact h4 x ((hout x).1 hx)
       . rcases List.mem_append.1 hx with hx | hx
         . have:=hno x hx;omega
         . rw [List.mem_singleton.1 hx] at hle;omega
       . simp only [List.mem_append,List.mem_singleton,hout]
         constructor
         . exact .inl
         . rintro (h | ⟨h,_⟩)
           . exact h
           . cases h
theorem taggedL_spec (l:List Nat) (t:Nat) (h:l.Pairwise (· < ·)):(taggedL l t).Pairwise (· < ·)/\∀ x,x ∈ taggedL l t ↔ x ∈ l\/x=t:=by
 obtain ⟨a1,a2,a3⟩:=tagFold_spec t l h
 unfold taggedL
 cases hb:(tagFold t l).2 with
 | true=>
   rw [if_pos rfl]
   exact ⟨a1,fun x=>by rw [a3,hb];simp⟩
 | false=>
   rw [if_neg (by simp)]
   rw [hb] at a2 a3
   have hno:∀ x ∈ l,x < t:=fun x hx=>Nat.lt_of_not_le (fun hle=>by have:=a2.2 ⟨x,hx,hle⟩;cases this)
   have hm:∀ x,x ∈ (tagFold t l).1 ↔ x ∈ l:=fun x=>by rw [a3];simp
   refine ⟨List.pairwise_append.2 ⟨a1,List.pairwise_singleton ..,fun x hx z hz=>by rw [List.mem_singleton.1 hz];exact hno x ((hm x).1 hx)⟩,fun x=>?_⟩
   rw [List.mem_append,hm,List.mem_singleton]
theorem rising_uniq:∀ (a b:List Nat),a.Pairwise (· < ·)->b.Pairwise (· < ·)->(∀ x,x ∈ a ↔ x ∈ b)->a=b
 | [],[],_,_,_=>rfl
 | [],v :: vs,_,_,h=>by have:=(h v).2 (List.mem_cons_self ..);cases this
 | v :: vs,[],_,_,h=>by have:=(h v).1 (List.mem_cons_self ..);cases this
 | a :: us,b :: bs,h1,h2,h=>by
   obtain ⟨a1,a2⟩:=List.pairwise_cons.1 h1
   obtain ⟨b1,b2⟩:=List.pairwise_cons.1 h2
   have hab:a=b:=by
    rcases List.mem_cons.1 ((h a).1 (List.mem_cons_self ..)) with e | e
    . exact e
    . rcases List.mem_cons.1 ((h b).2 (List.mem_cons_self ..)) with e2 | e2
      . exact e2.symm
      . have:=a1 b e2;have:=b1 a e;omega
   subst hab
   rw [rising_uniq us bs a2 b2 (fun x=>?_)]
   constructor
   . intro hx
     rcases List.mem_cons.1 ((h x).1 (List.mem_cons_of_mem _ hx)) with e | e
     . have:=a1 x hx;omega
     . exact e
   . intro hx
     rcases List.mem_cons.1 ((h x).2 (List.mem_cons_of_mem _ hx)) with e | e
     . have:=b1 x hx;omega
     . exact e
structure WinIs (x:Win) (key:ByteArray) (s:Int) (W:List Ev):Prop where
 key:x.key=key
 start:x.start=s
 cnt:x.cnt=(W.length:Int)
 sum:x.sum=sumV W
 lo:W ≠ []->x.lo=loV W
 hi:W ≠ []->x.hi=hiV W
 rise:x.tags.Pairwise (· < ·)
 tags:∀ t:Nat,t ∈ x.tags ↔ ∃ e ∈ W,e.tag=t
theorem loV_snoc' (W:List Ev) (e:Ev):loV (W++[e])=minV (loV W) e.v:=by unfold loV;rw [List.foldl_append];rfl
theorem hiV_snoc' (W:List Ev) (e:Ev):hiV (W++[e])=maxV (hiV W) e.v:=by unfold hiV;rw [List.foldl_append];rfl
theorem winF_is (key:ByteArray) (s size:Int) (E:List Ev) (hE:∀ e ∈ E,e.fits):WinIs (winF key s size E) key s (E.filter (inWin key s size)):=by
 induction E using snoc_ind with
 | nil=>exact ⟨rfl,rfl,rfl,(by simp [winF,sumV,wrap64_zero']),fun h=>absurd rfl h,fun h=>absurd rfl h,List.Pairwise.nil,fun t=>by simp [winF]⟩
 | snoc E e ih=>
   have ih:=ih (fun x hx=>hE x (List.mem_append_left _ hx))
   obtain ⟨f1,f2,f3⟩:=hE e (List.mem_append_right _ (List.mem_singleton.2 rfl))
   rw [winF_snoc,List.filter_append]
   unfold winStep
   cases hin:inWin key s size e with
   | false=>
     rw [if_neg (by simp)]
     have:[e].filter (inWin key s size)=[]:=by simp [hin]
     rw [this,List.append_nil];exact ih
   | true=>
     rw [if_pos rfl]
     have he:[e].filter (inWin key s size)=[e]:=by simp [hin]
     rw [he]
     generalize E.filter (inWin key s size)=W at *
     generalize winF key s size E=x at *
     obtain ⟨t1,t2⟩:=taggedL_spec x.tags e.tag ih.rise
     refine ⟨ih.key,ih.start,?_,?_,fun _=>?_,fun _=>?_,t1,fun t=>?_⟩
     . show x.cnt+1=_
       rw [ih.cnt,List.length_append];simp
     . show wrap64 (x.sum+e.v)=_
       rw [ih.sum]
       unfold sumV
       rw [wrap64_add,List.map_append,List.sum_append];simp
     . show (if x.cnt=0\/e.v < x.lo then e.v else x.lo)=_
       rw [loV_snoc']
       by_cases hW:W=[]
       . have h0:x.cnt=0:=by rw [ih.cnt,hW];rfl
         rw [if_pos (.inl h0),hW]
         show _=minV 9223372036854775807 e.v
         unfold minV
         by_cases hl:e.v < 9223372036854775807
         . rw [if_pos hl]
         . rw [if_neg hl];omega
       . have h0:¬ x.cnt=0:=by rw [ih.cnt];have:=List.length_pos_iff.2 hW;omega
         rw [ih.lo hW]
         unfold minV
         by_cases hlt:e.v < loV W
         . rw [if_pos (.inr hlt),if_pos hlt]
         . rw [if_neg (by rintro (h | h);exact h0 h;exact hlt h),if_neg hlt]
     . show (if x.cnt=0\/x.hi < e.v then e.v else x.hi)=_
       rw [hiV_snoc']
       by_cases hW:W=[]
       . have h0:x.cnt=0:=by rw [ih.cnt,hW];rfl
         rw [if_pos (.inl h0),hW]
         show _=maxV (-9223372036854775808) e.v
         unfold maxV
         by_cases hl:-9223372036854775808 < e.v
         . rw [if_pos hl]
         . rw [if_neg hl];omega
       . have h0:¬ x.cnt=0:=by rw [ih.cnt];have:=List.length_pos_iff.2 hW;omega
         rw [ih.hi hW]
         unfold maxV
         by_cases hlt:hiV W < e.v
         . rw [if_pos (.inr hlt),if_pos hlt]
         . rw [if_neg (by rintro (h | h);exact h0 h;exact hlt h),if_neg hlt]
     . show t ∈ taggedL x.tags e.tag ↔ _
       rw [t2,ih.tags]
       constructor
       . rintro (⟨a,ha,hat⟩ | rfl)
         . exact ⟨a,List.mem_append_left _ ha,hat⟩
         . exact ⟨e,List.mem_append_right _ (List.mem_singleton.2 rfl),rfl⟩
       . rintro ⟨a,ha,hat⟩
         rcases List.mem_append.1 ha with ha | ha
         . exact .inl ⟨a,ha,hat⟩
         . rw [List.mem_singleton.1 ha] at hat;exact .inr hat.symm
end Go.Proofs.YtcfngdnmpogaoaaGreat
namespace Go.Proofs.YtcfngdnmpogaoaaGreat
open Go.RowKit
variable {T:Option Int} {key:ByteArray} {s:Int} {x:Win}
theorem runS_evs (q:List Pane) (hf:Fits (evsOf q)):runS (q.map Pane.span)=(loV (evsOf q),hiV (evsOf q)):=by
 induction q using snoc_ind with
 | nil=>rfl
 | snoc q p ih=>
   have he:evsOf (q++[p])=evsOf q++p.evs:=by rw [evsOf_append];simp [evsOf]
   rw [he] at hf ⊢
   have hf1:Fits (evsOf q):=fun e h=>hf e (List.mem_append_left _ h)
   rw [List.map_append,List.map_cons,List.map_nil,runS_snoc,ih hf1,loV_append _ _ hf1,hiV_append _ _ hf1]
   rfl
theorem tagN_pos (q:List Pane) (t:Nat):0 < tagN q (t:Int) ↔ ∃ e ∈ evsOf q,e.tag=t:=by
 unfold tagN hasTag evsOf
 rw [List.length_pos_iff_exists_mem]
 constructor
 . rintro ⟨p,hp⟩
   obtain ⟨h1,h2⟩:=List.mem_filter.1 hp
   obtain ⟨e,he,h3⟩:=List.any_eq_true.1 h2
   have h4:=of_decide_eq_true h3
   exact ⟨e,List.mem_flatMap.2 ⟨p,h1,he⟩,by omega⟩
 . rintro ⟨e,he,h3⟩
   obtain ⟨p,h1,h2⟩:=List.mem_flatMap.1 he
   exact ⟨p,List.mem_filter.2 ⟨h1,List.any_eq_true.2 ⟨e,h2,decide_eq_true (by omega)⟩⟩⟩
theorem Told.is {q:List Pane} (h:Told q key s x) (hf:Fits (evsOf q)) (hl:(evsOf q).length < 9223372036854775807):WinIs x key s (evsOf q):=by
 have hr:=runS_evs q hf
 refine ⟨h.key,h.start,?_,h.sum,fun _=>by rw [h.lo,hr],fun _=>by rw [h.hi,hr],h.rise,fun t=>by rw [h.tags,tagN_pos]⟩
 rw [h.cnt]
 unfold cntV wrap64
 omega
theorem WinIs.perm {W W':List Ev} (h:WinIs x key s W) (hp:W.Perm W') (hf:Fits W):WinIs x key s W':=by
 have hne:W' ≠ []->W ≠ []:=fun h0 e=>h0 (by subst e;exact hp.nil_eq.symm)
 refine ⟨h.key,h.start,by rw [h.cnt,hp.length_eq],by rw [h.sum,sumV_perm hp],fun h0=>by rw [h.lo (hne h0),loV_perm hp hf],fun h0=>by rw [h.hi (hne h0),hiV_perm hp hf],h.rise,fun t=>?_⟩
 rw [h.tags]
 exact ⟨fun ⟨e,he,ht⟩=>⟨e,hp.mem_iff.1 he,ht⟩,fun ⟨e,he,ht⟩=>⟨e,hp.mem_iff.2 he,ht⟩⟩
theorem WinIs.uniq {y:Win} {W:List Ev} (h:WinIs x key s W) (h':WinIs y key s W) (h0:W ≠ []):x=y:=by
 have ht:x.tags=y.tags:=rising_uniq _ _ h.rise h'.rise (fun t=>by rw [h.tags,h'.tags])
 obtain ⟨x1,x2,x3,x4,x5,x6,x7⟩:=x
 obtain ⟨y1,y2,y3,y4,y5,y6,y7⟩:=y
 have e1:=h.key.trans h'.key.symm
 have e2:=h.start.trans h'.start.symm
 have e3:=h.cnt.trans h'.cnt.symm
 have e4:=h.sum.trans h'.sum.symm
 have e5:=(h.lo h0).trans (h'.lo h0).symm
 have e6:=(h.hi h0).trans (h'.hi h0).symm
 simp only at e1 e2 e3 e4 e5 e6 ht
 subst e1;subst e2;subst e3;subst e4;subst e5;subst e6;subst ht
 rfl
theorem in_iff (size slide t s:Int) (h1:1<=slide) (hd:slide ∣ s):(s<=t/\t < s+size) ↔ (winFirst size slide t<=s/\s<=winLast slide t):=by
 unfold winFirst winLast
 obtain ⟨a1,a2⟩:=down_le (t - size) slide h1
 obtain ⟨b1,b2⟩:=down_le t slide h1
 constructor
 . rintro ⟨h3,h4⟩
   refine ⟨mul_gap _ _ slide h1 (down_dvd _ _) hd (by omega),?_⟩
   refine Int.not_lt.1 (fun hlt=>?_)
   have:=mul_gap _ _ slide h1 (down_dvd _ _) hd hlt
   omega
 . rintro ⟨h3,h4⟩
   omega
theorem inWin_iff (key:ByteArray) (s size:Int) (e:Ev):inWin key s size e=true ↔ e.key=key/\s<=e.t/\e.t < s+size:=by
 unfold inWin
 rw [Bool.and_eq_true,Bool.and_eq_true,keyEq_iff,decide_eq_true_iff,decide_eq_true_iff]
 constructor
 . rintro ⟨a,b,c⟩;exact ⟨a,b,by omega⟩
 . rintro ⟨a,b,c⟩;exact ⟨a,b,by omega⟩
theorem toldB_mono {x y:Int} (h:toldB T x=false) (hxy:x<=y):toldB T y=false:=by
 cases T with
 | none=>rfl
 | some t=>
   have h1:decide (x<=t)=false:=h
   have h2:=of_decide_eq_false h1
   exact decide_eq_false (by omega)
theorem evsOf_filter (f:Ev->Bool) (g:Pane->Bool) (ps:List Pane) (h:∀ p ∈ ps,∀ e ∈ p.evs,f e=g p):evsOf (ps.filter g)=(evsOf ps).filter f:=by
 induction ps with
 | nil=>rfl
 | cons p ps ih=>
   have ih:=ih (fun q hq=>h q (List.mem_cons_of_mem _ hq))
   have hp:=h p (List.mem_cons_self ..)
   rw [evsOf_cons,List.filter_append,<- ih,List.filter_cons]
   cases hg:g p with
   | true=>
     have h2:p.evs.filter f=p.evs:=List.filter_eq_self.2 (fun e he=>by rw [hp e he,hg])
     rw [if_pos rfl,evsOf_cons,h2]
   | false=>
     have h2:p.evs.filter f=[]:=List.filter_eq_nil_iff.2 (fun e he=>by rw [hp e he,hg];simp)
     rw [if_neg (by simp),h2,List.nil_append]
theorem runEvs_none (f:Ev->Bool) (rs:List RunS) (h:∀ r ∈ rs,∀ p ∈ r.ps,∀ e ∈ p.evs,f e=false):(runEvs rs).filter f=[]:=by
 refine List.filter_eq_nil_iff.2 (fun e he=>?_)
 unfold runEvs evsOf at he
 obtain ⟨r,hr,he⟩:=List.mem_flatMap.1 he
 obtain ⟨p,hp,he⟩:=List.mem_flatMap.1 he
 rw [h r hr p hp e he];simp
theorem Mod.win {st:St} {E:List Ev} (h:Mod st E T) {r:RunS} (hr:r ∈ st.es++st.gs) {s:Int} (hd:st.slide ∣ s) (hT:toldB T (s+st.size)=false) (hp:∃ p ∈ r.ps,p.first<=s/\s<=p.last) :
 (evsOf (inPanes r.ps s)).Perm (E.filter (inWin r.key s st.size)):=by
 have h1:=h.conf.s1
 have hu:E.filter (inWin r.key s st.size)=(untold T st.size st.slide E).filter (inWin r.key s st.size):=by
  unfold untold
  rw [List.filter_filter]
  refine List.filter_congr (fun e _=>?_)
  cases hin:inWin r.key s st.size e with
  | false=>simp
  | true=>
    obtain ⟨_,k2,k3⟩:=(inWin_iff _ _ _ _).1 hin
    obtain ⟨_,k4⟩:=(in_iff st.size st.slide e.t s h1 hd).1 ⟨k2,k3⟩
    rw [toldB_mono hT (show s+st.size<=winLast st.slide e.t+st.size by omega)];rfl
 rw [hu]
 refine List.Perm.trans ?_ (h.perm.filter _)
 have hev:∀ r' ∈ st.es++st.gs,∀ p ∈ r'.ps,∀ e ∈ p.evs,inWin r.key s st.size e=(keyEq r'.key r.key && (decide (p.first<=s) && decide (s<=p.last))):=fun r' hr' p hp e he=>by
  obtain ⟨k1,k2,k3⟩:=((h.good r' hr').pane p hp).2 e he
  rw [Bool.eq_iff_iff,inWin_iff,in_iff st.size st.slide e.t s h1 hd,k1,k2,k3,Bool.and_eq_true,Bool.and_eq_true,keyEq_iff,decide_eq_true_iff,decide_eq_true_iff]
 obtain ⟨a,b,hab⟩:=List.append_of_mem hr
 obtain ⟨p,hpm,hp1,hp2⟩:=hp
 have ho:=h.order
 rw [hab] at ho hev ⊢
 obtain ⟨_,o2,o3⟩:=List.pairwise_append.1 ho
 obtain ⟨o4,_⟩:=List.pairwise_cons.1 o2
 have hself:keyEq r.key r.key=true:=(keyEq_iff _ _).2 rfl
 have hno:∀ r' ∈ a++b,∀ q ∈ r'.ps,∀ e ∈ q.evs,inWin r.key s st.size e=false:=fun r' hr' q hq e he=>by
  have hm:r' ∈ a++r :: b:=by
   rcases List.mem_append.1 hr' with h | h
   . exact List.mem_append_left _ h
   . exact List.mem_append_right _ (List.mem_cons_of_mem _ h)
  rw [hev r' hm q hq e he]
  cases hk:keyEq r'.key r.key with
  | false=>rfl
  | true=>
    have hk:=(keyEq_iff _ _).1 hk
    rw [Bool.true_and]
    by_cases h3:q.first<=s
    . by_cases h4:s<=q.last
      . rcases List.mem_append.1 hr' with h | h
        . have:=o3 r' h r (List.mem_cons_self ..) hk q hq p hpm;omega
        . have:=o4 r' h hk.symm p hpm q hq;omega
      . rw [decide_eq_false h4,Bool.and_false]
    . rw [decide_eq_false h3,Bool.false_and]
 rw [runEvs_append,runEvs_cons,List.filter_append,List.filter_append,runEvs_none _ a (fun r' hr'=>hno r' (List.mem_append_left _ hr')),runEvs_none _ b (fun r' hr'=>hno r' (List.mem_append_right _ hr')),List.nil_append,List.append_nil]
 unfold inPanes
 rw [evsOf_filter (inWin r.key s st.size) _ r.ps (fun q hq e he=>by rw [hev r (List.mem_append_right _ (List.mem_cons_self ..)) q hq e he,hself,Bool.true_and])]
theorem Mod.told_win {st:St} {E:List Ev} (h:Mod st E T) {r:RunS} (hr:r ∈ st.es++st.gs) {s:Int} (hd:st.slide ∣ s) (hT:toldB T (s+st.size)=false) (hp:∃ p ∈ r.ps,p.first<=s/\s<=p.last) (hE:E.length < 9223372036854775807) {x:Win} (hx:Told (inPanes r.ps s) r.key s x):x=winF r.key s st.size E:=by
 have hperm:=h.win hr hd hT hp
 have hfE:Fits E:=fun e he=>(h.evs e he).1
 have hfW:Fits (E.filter (inWin r.key s st.size)):=fun e he=>hfE e (List.mem_filter.1 he).1
 have hfq:=hfW.perm hperm.symm
 have hlen:(evsOf (inPanes r.ps s)).length<=E.length:=by rw [hperm.length_eq];exact List.length_filter_le _ _
 refine ((hx.is hfq (by omega)).perm hperm hfq).uniq (winF_is r.key s st.size E hfE) ?_
 obtain ⟨p,hpm,hp1,hp2⟩:=hp
 obtain ⟨e,he⟩:=List.exists_mem_of_ne_nil _ ((h.good r hr).pane p hpm).1
 have hmem:e ∈ evsOf (inPanes r.ps s):=List.mem_flatMap.2 ⟨p,List.mem_filter.2 ⟨hpm,by rw [decide_eq_true hp1,decide_eq_true hp2];rfl⟩,he⟩
 exact List.ne_nil_of_mem (hperm.mem_iff.1 hmem)
end Go.Proofs.YtcfngdnmpogaoaaGreat
namespace Go.Proofs.YtcfngdnmpogaoaaGreat
open Go.RowKit
variable {E:List Ev} {T:Option Int} {st:St}
def slidR (st:St) (r:RunS):RunS × List (Int × List Pane):=slideF st.size st.slide st.lt (leftS st.lt r+1) r []
def outW (st:St) (E:List Ev) (r:RunS):List Win:=(slidR st r).2.map fun v=>winF r.key v.1 st.size E
def outAll (st:St) (E:List Ev) (rs:List RunS):List Win:=rs.flatMap (outW st E)
def St.taken (st:St):St:={ st with es:=[],gs:=st.gs.map fun r=>(slidR st r).1 }
structure SlidAll (st:St) (T:Option Int) (r:RunS):Prop where
 out:Slid3 st.size st.slide T st.lt r.ps (slidR st r).2
 virt:RunVirt st.size st.slide (some st.lt) (slidR st r).1
 ps:(slidR st r).1.ps=r.ps.filter (fun p=>decide (st.lt < p.last+st.size))
 key:(slidR st r).1.key=r.key
theorem Mod.slid (h:Mod st E T) {r:RunS} (hr:r ∈ st.es++st.gs):SlidAll st T r:=by
 obtain ⟨vs,h1,h2,h3,h4,h5⟩:=slideF_spec st.size st.slide st.lt h.conf.s1 h.conf.s2 (leftS st.lt r+1) r T [] (h.good r hr).virt (Nat.lt_succ_self _) (fun t ht=>(h.told t ht).2)
 have h6:(slidR st r).2=vs:=h1
 exact ⟨by rw [h6];exact h2,h3,h4,h5⟩
theorem Mod.outW_of (h:Mod st E T) {r:RunS} (hr:r ∈ st.es++st.gs) (hE:E.length < 9223372036854775807) {xs:List Win} (hl:xs.length=(slidR st r).2.length) (hx:∀ (i:Nat) x s,xs[i]?=some x->(slidR st r).2[i]?=some s->Told s.2 r.key s.1 x):xs=outW st E r:=by
 refine List.ext_getElem? (fun i=>?_)
 unfold outW
 rw [List.getElem?_map]
 by_cases hi:i < xs.length
 . have hi2:i < (slidR st r).2.length:=by omega
   have h1:xs[i]?=some xs[i]:=List.getElem?_eq_getElem hi
   have h2:(slidR st r).2[i]?=some (slidR st r).2[i]:=List.getElem?_eq_getElem hi2
   have h3:=hx i _ _ h1 h2
   obtain ⟨s1,s2,_,s4,s5⟩:=(h.slid hr).out.sound _ (List.getElem_mem hi2)
   rw [s5] at h3
   rw [h1,h2,Option.map_some,h.told_win hr s1 s2 s4 hE h3]
 . rw [List.getElem?_eq_none (by omega),List.getElem?_eq_none (by omega)];rfl
theorem mem_runEvs (rs:List RunS) (e:Ev):e ∈ runEvs rs ↔ ∃ r ∈ rs,∃ p ∈ r.ps,e ∈ p.evs:=by
 unfold runEvs evsOf
 simp only [List.mem_flatMap]
theorem Mod.out_mem (h:Mod st E T) (hli:st.li=true) (y:Win):y ∈ outAll st E (st.es++st.gs) ↔ ∃ key s,winP st.size st.slide T st.lt st.li E key s/\y=winF key s st.size E:=by
 have h1:=h.conf.s1
 unfold outAll
 rw [List.mem_flatMap]
 constructor
 . rintro ⟨r,hr,hy⟩
   unfold outW at hy
   obtain ⟨v,hv,rfl⟩:=List.mem_map.1 hy
   obtain ⟨s1,s2,s3,⟨p,hp,hp1,hp2⟩,_⟩:=(h.slid hr).out.sound v hv
   obtain ⟨hne,hev⟩:=(h.good r hr).pane p hp
   obtain ⟨e,he⟩:=List.exists_mem_of_ne_nil _ hne
   obtain ⟨k1,k2,k3⟩:=hev e he
   have hE:e ∈ E:=(List.mem_filter.1 (h.perm.mem_iff.1 ((mem_runEvs _ _).2 ⟨r,hr,p,hp,he⟩))).1
   obtain ⟨k4,k5⟩:=(in_iff st.size st.slide e.t v.1 h1 s1).2 ⟨by omega,by omega⟩
   exact ⟨r.key,v.1,⟨hli,⟨e,hE,k1,s1,k4,k5⟩,s3,s2⟩,rfl⟩
 . rintro ⟨key,s,⟨_,⟨e,hE,k1,s1,k4,k5⟩,s3,s2⟩,rfl⟩
   obtain ⟨k6,k7⟩:=(in_iff st.size st.slide e.t s h1 s1).1 ⟨k4,k5⟩
   have hu:e ∈ untold T st.size st.slide E:=List.mem_filter.2 ⟨hE,by rw [toldB_mono s2 (show s+st.size<=winLast st.slide e.t+st.size by omega)];rfl⟩
   obtain ⟨r,hr,p,hp,he⟩:=(mem_runEvs _ _).1 (h.perm.mem_iff.2 hu)
   obtain ⟨m1,m2,m3⟩:=((h.good r hr).pane p hp).2 e he
   obtain ⟨x,hx,hxs⟩:=(h.slid hr).out.full s s1 s2 s3 ⟨p,hp,by omega,by omega⟩
   refine ⟨r,hr,?_⟩
   unfold outW
   exact List.mem_map.2 ⟨x,hx,by rw [hxs,<- m1,k1]⟩
theorem Mod.out_apart (h:Mod st E T):(outAll st E (st.es++st.gs)).Pairwise (fun x y=>¬ (x.start=y.start/\x.key=y.key)):=by
 unfold outAll
 rw [List.pairwise_flatMap]
 constructor
 . intro r hr
   unfold outW
   rw [List.pairwise_map]
   refine (h.slid hr).out.order.imp (fun {a b} hab=>?_)
   rw [(winF_key ..).2,(winF_key ..).2]
   omega
 . have hall:∀ r ∈ st.es++st.gs,SlidAll st T r:=fun r hr=>h.slid hr
   refine List.Pairwise.imp_of_mem (fun {a b} ha hb hab=>?_) h.order
   intro x hx y hy
   unfold outW at hx hy
   obtain ⟨v,hv,rfl⟩:=List.mem_map.1 hx
   obtain ⟨u,hu,rfl⟩:=List.mem_map.1 hy
   rw [(winF_key ..).2,(winF_key ..).2,(winF_key ..).1,(winF_key ..).1]
   rintro ⟨e1,e2⟩
   obtain ⟨_,_,_,⟨p,hp,_,hp2⟩,_⟩:=(hall a ha).out.sound v hv
   obtain ⟨_,_,_,⟨q,hq,hq1,_⟩,_⟩:=(hall b hb).out.sound u hu
   have:=hab e2 p hp q hq
   omega
theorem Mod.void (h:Mod st [] T):st.es=[]/\st.gs=[]:=by
 have h1:=h.perm.eq_nil
 have h2:st.es++st.gs=[]:=by
  cases hr:st.es++st.gs with
  | nil=>rfl
  | cons r rs=>
    have hg:=h.good r (by rw [hr];exact List.mem_cons_self ..)
    obtain ⟨p,hp⟩:=List.exists_mem_of_ne_nil _ hg.ne
    obtain ⟨e,he⟩:=List.exists_mem_of_ne_nil _ (hg.pane p hp).1
    have:e ∈ runEvs (st.es++st.gs):=(mem_runEvs _ _).2 ⟨r,by rw [hr];exact List.mem_cons_self ..,p,hp,he⟩
    rw [h1] at this;cases this
 exact List.append_eq_nil_iff.1 h2
theorem Mod.taken (h:Mod st E T) (hli:st.li=true):Mod st.taken E (some st.lt):=by
 have hsl:∀ r ∈ st.gs,SlidAll st T r:=fun r hr=>h.slid (List.mem_append_right _ hr)
 have hrem:∀ x:Int,toldB (some st.lt) x=decide (x<=st.lt):=fun x=>rfl
 refine ⟨⟨h.conf.s1,h.conf.s2,h.conf.s3,h.conf.l1,h.conf.l2,h.conf.k1,h.conf.k2⟩,?_,?_,?_,?_,?_,?_,fun r hr=>(by cases hr),fun t ht=>⟨hli,by cases ht;exact Int.le_refl _⟩,h.evs⟩
 . show ((st.gs.map fun r=>(slidR st r).1).map RunS.key).Nodup
   rw [List.map_map]
   have:st.gs.map (RunS.key ∘ fun r=>(slidR st r).1)=st.gs.map RunS.key:=List.map_congr_left (fun r hr=>(hsl r hr).key)
   rw [this];exact h.gsK
 . show ((st.gs.map fun r=>(slidR st r).1).length:Int)<=st.keys
   rw [List.length_map];exact h.gsLen
 . show ∀ r ∈ []++st.gs.map (fun r=>(slidR st r).1),RunGood st.size st.slide (some st.lt) r
   rw [List.nil_append]
   intro r' hr'
   obtain ⟨r,hr,rfl⟩:=List.mem_map.1 hr'
   obtain ⟨_,hv,hps,_⟩:=hsl r hr
   refine ⟨?_,hv.sorted,hv.pane,hv.rem,hv.ins,hv.insLe,hv.nxt⟩
   obtain ⟨p,hp,hu⟩:=h.gsU r hr
   rw [hps]
   refine List.ne_nil_of_mem (List.mem_filter.2 ⟨hp,decide_eq_true ?_⟩)
   rcases hu with hu | hu
   . rw [hli] at hu;cases hu
   . exact hu
 . show (runEvs ([]++st.gs.map fun r=>(slidR st r).1)).Perm (untold (some st.lt) st.size st.slide E)
   have e1:untold (some st.lt) st.size st.slide E=(untold T st.size st.slide E).filter (fun e=>!decide (winLast st.slide e.t+st.size<=st.lt)):=by
    unfold untold
    rw [List.filter_filter]
    refine List.filter_congr (fun e _=>?_)
    rw [hrem]
    cases hd:decide (winLast st.slide e.t+st.size<=st.lt) with
    | true=>rfl
    | false=>
      have hd:=of_decide_eq_false hd
      cases hT:T with
      | none=>rfl
      | some t=>
        have:=(h.told t hT).2
        have h5:decide (winLast st.slide e.t+st.size<=t)=false:=decide_eq_false (by omega)
        show _=(_ && !decide (winLast st.slide e.t+st.size<=t))
        rw [h5];rfl
   rw [e1]
   refine List.Perm.trans ?_ (h.perm.filter _)
   rw [runEvs_append st.es,List.filter_append,runEvs_none _ st.es (fun r hr p hp e he=>by
    obtain ⟨_,_,k3⟩:=((h.good r (List.mem_append_left _ hr)).pane p hp).2 e he
    have:=(h.esF r hr).2 p hp
    rw [k3,decide_eq_true this];rfl),List.nil_append,List.nil_append]
   have hgen:∀ gs:List RunS,(∀ r ∈ gs,r ∈ st.gs)->runEvs (gs.map fun r=>(slidR st r).1)=(runEvs gs).filter (fun e=>!decide (winLast st.slide e.t+st.size<=st.lt)):=by
    intro gs
    induction gs with
    | nil=>intro _;rfl
    | cons r gs ih=>
      intro hm
      have hr:=hm r (List.mem_cons_self ..)
      rw [List.map_cons,runEvs_cons,runEvs_cons,List.filter_append,ih (fun q hq=>hm q (List.mem_cons_of_mem _ hq)),(hsl r hr).ps]
      rw [evsOf_filter (fun e=>!decide (winLast st.slide e.t+st.size<=st.lt)) _ r.ps (fun p hp e he=>?_)]
      obtain ⟨_,_,k3⟩:=((h.good r (List.mem_append_right _ hr)).pane p hp).2 e he
      rw [k3,<- decide_not]
      exact decide_eq_decide.2 (by omega)
   rw [hgen st.gs (fun r hr=>hr)]
 . show ([]++st.gs.map fun r=>(slidR st r).1).Pairwise RunLt
   rw [List.nil_append,List.pairwise_map]
   have ho:=(List.pairwise_append.1 h.order).2.1
   refine List.Pairwise.imp_of_mem (fun {a b} ha hb hab=>?_) ho
   intro hk p hp q hq
   rw [(hsl a ha).key,(hsl b hb).key] at hk
   rw [(hsl a ha).ps] at hp
   rw [(hsl b hb).ps] at hq
   exact hab hk p (List.mem_filter.1 hp).1 q (List.mem_filter.1 hq).1
 . intro r' hr'
   obtain ⟨r,hr,rfl⟩:=List.mem_map.1 hr'
   obtain ⟨p,hp,hu⟩:=h.gsU r hr
   refine ⟨p,?_,hu⟩
   rw [(hsl r hr).ps]
   refine List.mem_filter.2 ⟨hp,decide_eq_true ?_⟩
   rcases hu with hu | hu
   . rw [hli] at hu;cases hu
   . exact hu
theorem Mod.sorted (h:Mod st E T) (hli:E ≠ []->st.li=true) {ys:List Win} (hp:ys.Perm (outAll st E (st.es++st.gs))) (ho:ys.Pairwise (fun x y=>¬ ltW y x)):DoneOk st.size st.slide T st.lt st.li E ys:=by
 by_cases hE:E=[]
 . subst hE
   obtain ⟨h1,h2⟩:=h.void
   rw [h1,h2] at hp
   have:ys=[]:=hp.eq_nil
   subst this
   refine ⟨List.Pairwise.nil,fun x=>⟨fun hx=>(by cases hx),?_⟩⟩
   rintro ⟨k,s,⟨_,⟨e,he,_⟩,_⟩,_⟩
   cases he
 . have hl:=hli hE
   refine ⟨?_,fun x=>by rw [hp.mem_iff];exact h.out_mem hl x⟩
   have ha:=(hp.pairwise_iff (fun {x y} hxy hyx=>hxy ⟨hyx.1.symm,hyx.2.symm⟩)).2 h.out_apart
   refine List.Pairwise.imp (fun {x y} hxy=>?_) (ho.and ha)
   exact Classical.not_not.1 (fun hn=>hxy.2 (ltW_total hn hxy.1))
end Go.Proofs.YtcfngdnmpogaoaaGreat
namespace Go.Proofs.YtcfngdnmpogaoaaGreat
open Go.RowKit Go.MuLone
variable {r:RunS}
theorem infoWinA:(Tryz.prog.info? 70).map (fun i=>(i.zero,i.size,i.bytes))=some (some (.agg #[.string ⟨#[]⟩,.int .i64 0,.int .i64 0,.int .i64 0,.int .i64 0,.int .i64 0,.slice none 0 0]),7,80):=by kernel_rfl
structure NumOk (r:RunS):Prop where
 ps:∀ p ∈ r.ps,-4611686018427387904<=p.first/\p.first<=4611686018427387904
 next:0 < r.inside->-4611686018427387904<=r.next/\r.next<=4611686018427387904
theorem NumOk.start (h:NumOk r):-4611686018427387904<=nextS r/\nextS r<=4611686018427387904:=by
 unfold nextS
 split
 . next h0=>exact h.next h0
 . cases hp:r.ps with
   | nil=>simp
   | cons p l=>exact h.ps p (by rw [hp];exact List.mem_cons_self ..)
theorem NumOk.step (h:NumOk r) (slide:Int) (h1:-4611686018427387904<=nextS r+slide) (h2:nextS r+slide<=4611686018427387904):NumOk (stepR slide r):=
 ⟨fun p hp=>h.ps p (List.mem_of_mem_drop hp),fun _=>⟨h1,h2⟩⟩
theorem stepR_len (slide:Int) (r:RunS):(stepR slide r).ps.length<=r.ps.length:=by
 show (r.ps.drop _).length<=_
 rw [List.length_drop];omega
theorem RunAt.setNext {w:World} {d:RunD} (h:RunAt w d r) (x:Int):RunAt (w.setCell ⟨d.R,3,none⟩ (.int .i64 x)) d { r with next:=x }:=by
 have hoth:∀ k,k ≠ d.R->(w.setCell ⟨d.R,3,none⟩ (.int .i64 x)).heap[k]?=w.heap[k]?:=fun k hk=>heap_setCell_other _ _ _ _ hk
 refine ⟨blkPut h.run 3 _,h.panes.congr (fun k hk=>hoth k ((h.panes.cb hk).ne (Cb.of h.run) (by decide))),h.len,fun i P M p h1 h2=>?_,h.nodP,h.nodM,h.tcM,h.ins,h.parts.congr (fun k hk=>hoth k (fun e=>?_))⟩
 . have hpa:=h.each i P M p h1 h2
   exact hpa.congr (hoth P ((Cb.of hpa.pane).ne (Cb.of h.run) (by decide))) (hoth M (fun e=>(Cb.of h.run).neM hpa.tags.mb e.symm))
 . subst e
   exact h.parts.mid.not (Cb.of h.run) (by decide) (by decide) (by decide) (by decide) hk
theorem RunAt.apart {w:World} {d:RunD} {e:TypeId} {sz:Nat} {v:Value} {xs:List Value} (h:RunAt w d r) (hr:Row w e sz v xs) (he:e=70\/e=26):∀ k,v.ownBlock=some k->¬ d.foot k:=fun k hk hf=>by
 rcases he with rfl | rfl
 . exact (h.kinds hf).ne (hr.cb hk) (by decide) rfl
 . exact (h.kinds hf).ne (hr.cb hk) (by decide) rfl
def tvAp (x y:WinX):Prop:=∀ k,x.tv.ownBlock=some k->y.tv.ownBlock ≠ some k
theorem tvAp.symm {x y:WinX} (h:tvAp x y):tvAp y x:=fun k h1 h2=>h k h2 h1
theorem slideF_len (size slide lt:Int):∀ (n:Nat) (r:RunS) (ws:List (Int × List Pane)),ws.length<=(slideF size slide lt n r ws).2.length
 | 0,_,_=>Nat.le_refl _
 | n+1,r,ws=>by
   rw [slideF]
   split
   . exact Nat.le_refl _
   . refine Nat.le_trans ?_ (slideF_len size slide lt n _ _)
     rw [List.length_append];omega
structure SlLoop (w wr:World) (g:Nat) (sc:SCells) (F0:Nat->Prop) (R:Nat) (ov0:Value) (xs0:List WinX) (key:ByteArray) (RES:RunS × List (Int × List Pane)) (N:Nat) (ov:Value) (xs:List WinX) (d:RunD) (r:RunS) (ws:List (Int × List Pane)) (n:Nat):Prop where
 sf:SF wr g sc
 run:RunAt wr d r
 dR:d.R=R
 foot:∀ k,d.foot k->F0 k\/w.heap.size<=k
 wins:WinsAt wr ov (xs0++xs) 0
 len:xs.length=ws.length
 told:∀ (i:Nat) x s,xs[i]?=some x->ws[i]?=some s->Told s.2 key s.1 x.w
 own:∀ k,ov.ownBlock=some k->ov0.ownBlock=some k\/w.heap.size<=k
 tg:∀ x ∈ xs,∀ k,x.tv.ownBlock=some k->w.heap.size<=k
 kept:Kept (fun k=>F0 k\/ov0.ownBlock=some k) w wr
 key:r.key=key
 res:slideF sc.size sc.slide sc.lt n r ws=RES
 fuel:leftS sc.lt r < n
 few:RES.2.length<=N
 small:r.ps.length<=400000000
 num:NumOk r
 ap:xs.Pairwise tvAp
theorem told_more {q:List Pane} {key:ByteArray} {start:Int} {xs:List WinX} {ws:List (Int × List Pane)} {x:WinX} (hl:xs.length=ws.length) (h:∀ (i:Nat) x s,xs[i]?=some x->ws[i]?=some s->Told s.2 key s.1 x.w) (hx:Told q key start x.w):∀ (i:Nat) y s,(xs++[x])[i]?=some y->(ws++[(start,q)])[i]?=some s->Told s.2 key s.1 y.w:=fun i y s hy hs=>by
 by_cases hi:i < xs.length
 . rw [List.getElem?_append_left hi] at hy
   rw [List.getElem?_append_left (by omega)] at hs
   exact h i y s hy hs
 . have hi2:i=xs.length:=by
    have:=(List.getElem?_eq_some_iff.1 hy).1
    simp at this;omega
   subst hi2
   rw [List.getElem?_append_right (Nat.le_refl _),Nat.sub_self] at hy
   rw [List.getElem?_append_right (by omega),hl,Nat.sub_self] at hs
   simp only [List.getElem?_cons_zero,Option.some.injEq] at hy hs
   subst hy;subst hs
   exact hx
end Go.Proofs.YtcfngdnmpogaoaaGreat
namespace Go.Proofs.YtcfngdnmpogaoaaGreat
open Go.RowKit
variable {E:List Ev} {T:Option Int} {st:St}
theorem nodup_len {α:Type}:∀ (l m:List α),l.Nodup->(∀ x ∈ l,x ∈ m)->l.length<=m.length
 | [],_,_,_=>Nat.zero_le _
 | x :: l,m,h,hs=>by
   obtain ⟨h1,h2⟩:=List.nodup_cons.1 h
   obtain ⟨a,b,rfl⟩:=List.append_of_mem (hs x (List.mem_cons_self ..))
   have:=nodup_len l (a++b) h2 (fun y hy=>by
    have hy2:=hs y (List.mem_cons_of_mem _ hy)
    rcases List.mem_append.1 hy2 with h | h
    . exact List.mem_append_left _ h
    . rcases List.mem_cons.1 h with rfl | h
      . exact absurd hy h1
      . exact List.mem_append_right _ h)
   rw [List.length_append] at this
   rw [List.length_append,List.length_cons,List.length_cons];omega
def candW (size slide:Int) (E:List Ev) (e:Ev):List Win:=(List.range (winN size slide e.t)).map fun j=>winF e.key (startAt slide e.t j) size E
theorem candW_len (size slide:Int) (E es:List Ev) (h1:1<=slide) (h2:size<=4096*slide):(es.flatMap (candW size slide E)).length<=4097*es.length:=by
 induction es with
 | nil=>simp
 | cons e es ih=>
   rw [List.flatMap_cons,List.length_append,List.length_cons]
   have h3:(candW size slide E e).length=winN size slide e.t:=by unfold candW;rw [List.length_map,List.length_range]
   have:=winN_le size slide e.t h1 h2
   omega
theorem Mod.out_len (h:Mod st E T) (hli:E ≠ []->st.li=true) (hz:st.size<=4096*st.slide):(outAll st E (st.es++st.gs)).length<=4097*E.length:=by
 by_cases hE:E=[]
 . subst hE
   obtain ⟨h1,h2⟩:=h.void
   rw [h1,h2];exact Nat.le_refl _
 . refine Nat.le_trans (nodup_len _ (E.flatMap (candW st.size st.slide E)) ?_ (fun x hx=>?_)) (candW_len _ _ _ _ h.conf.s1 hz)
   . exact h.out_apart.imp (fun {a b} hab hne=>hab (by subst hne;exact ⟨rfl,rfl⟩))
   . obtain ⟨key,s,⟨_,⟨e,he,k1,k2,k3,k4⟩,_,_⟩,rfl⟩:=(h.out_mem (hli hE) x).1 hx
     obtain ⟨j,hj,hs⟩:=(start_iff st.size st.slide e.t s h.conf.s1).2 ⟨k2,k3,k4⟩
     refine List.mem_flatMap.2 ⟨e,he,?_⟩
     unfold candW
     exact List.mem_map.2 ⟨j,List.mem_range.2 hj,by rw [k1,hs]⟩
theorem outAll_part {rs a b:List RunS} {r:RunS} (h:rs=a++r :: b):(outAll st E a).length+(slidR st r).2.length<=(outAll st E rs).length:=by
 subst h
 unfold outAll
 rw [List.flatMap_append,List.flatMap_cons,List.length_append,List.length_append]
 have:(outW st E r).length=(slidR st r).2.length:=by unfold outW;rw [List.length_map]
 omega
theorem Mod.run_len (h:Mod st E T) {r:RunS} (hr:r ∈ st.es++st.gs):r.ps.length<=E.length:=by
 have h1:=ps_le_evs r.ps (fun p hp=>((h.good r hr).pane p hp).1)
 have h2:=run_le _ r hr
 have h3:=h.perm.length_eq
 have h4:(untold T st.size st.slide E).length<=E.length:=List.length_filter_le _ _
 omega
theorem Mod.num (h:Mod st E T) (hlt:st.lt<=2305843009213693952) {r:RunS} (hr:r ∈ st.es++st.gs):NumOk r:=by
 have h1:=h.conf.s1
 have h2:=h.conf.s2
 have h3:=h.conf.s3
 have hg:=h.good r hr
 have hps:∀ p ∈ r.ps,-2305843009213693952 - 1099511627776<=p.first/\p.first<=2305843009213693952:=fun p hp=>by
  obtain ⟨hne,hev⟩:=hg.pane p hp
  obtain ⟨e,he⟩:=List.exists_mem_of_ne_nil _ hne
  obtain ⟨_,k2,_⟩:=hev e he
  have hE:e ∈ E:=(List.mem_filter.1 (h.perm.mem_iff.1 ((mem_runEvs _ _).2 ⟨r,hr,p,hp,he⟩))).1
  obtain ⟨_,m1,m2⟩:=h.evs e hE
  obtain ⟨a1,a2⟩:=winFirst_gt st.size st.slide e.t h1
  omega
 refine ⟨fun p hp=>by have:=hps p hp;omega,fun h0=>?_⟩
 have hlen:0 < r.ps.length:=by have:=hg.insLe;omega
 have hp0:r.ps[0]?=some r.ps[0]:=List.getElem?_eq_getElem hlen
 have htold:=(hg.ins 0 _ hp0).1 h0
 have hb:=hps _ (List.getElem_mem hlen)
 cases hT:T with
 | none=>rw [hT] at htold;cases htold
 | some t=>
   rw [hT] at htold
   have h5:decide (r.ps[0].first+st.size<=t)=true:=htold
   have h5:=of_decide_eq_true h5
   have h6:=(h.told t hT).2
   have h7:=hg.nxt h0 t hT
   obtain ⟨a1,a2⟩:=down_le (t - st.size) st.slide h1
   omega
end Go.Proofs.YtcfngdnmpogaoaaGreat
