import Derived.Test.YtcfngdnmpogaoaaGreatTkT24
import Derived.Test.YtcfngdnmpogaoaaGreatTkT13
import Derived.Test.YtcfngdnmpogaoaaGreatTkT14
import Derived.Test.YtcfngdnmpogaoaaGreatTkT23
import Derived.Test.YtcfngdnmpogaoaaGreatTkT22
namespace Go.Proofs.YtcfngdnmpogaoaaGreat
open Go.RowKit
structure WinX where
 w:Win
 tv:Value
def wxCells (x:WinX):List Value:=[.string x.w.key,.int .i64 x.w.start,.int .i64 x.w.cnt,.int .i64 x.w.sum,.int .i64 x.w.lo,.int .i64 x.w.hi,x.tv]
theorem winFlat (l:List WinX) (j k:Nat) (e:WinX) (hs:l[j]?=some e) (hk:k < 7):(l.flatMap wxCells)[j*7+k]?=(wxCells e)[k]?:=by
 induction l generalizing j with
 | nil=>simp at hs
 | cons a l ih=>
   have ha:(wxCells a).length=7:=rfl
   cases j with
   | zero=>
     simp at hs
     subst hs
     rw [List.flatMap_cons,List.getElem?_append_left (by omega)]
     simp
   | succ j=>
     simp at hs
     rw [List.flatMap_cons,List.getElem?_append_right (by omega),<- ih j hs]
     congr 1
     omega
theorem winFlat_len (l:List WinX):(l.flatMap wxCells).length=7*l.length:=by
 induction l with
 | nil=>rfl
 | cons a l ih=>rw [List.flatMap_cons,List.length_append,ih];simp [wxCells];omega
structure WinsAt (w:World) (v:Value) (xs:List WinX) (B:Nat):Prop where
 row:Row w 70 7 v (xs.flatMap wxCells)
 tags:∀ x ∈ xs,Row w 26 1 x.tv (x.w.tags.map tagV)/\∀ k,x.tv.ownBlock=some k->B<=k
 blk:∀ k,v.ownBlock=some k->B<=k
 void:xs=[]->v=.slice none 0 0
theorem WinsAt.below {w w':World} {v:Value} {xs:List WinX} {B:Nat} (h:WinsAt w v xs B) (hb:Below w.heap.size w w'):WinsAt w' v xs B:=
 ⟨h.row.below hb (fun _ hk=>(h.row.blk_lt hk).1),fun x hx=>⟨(h.tags x hx).1.below hb (fun _ hk=>((h.tags x hx).1.blk_lt hk).1),(h.tags x hx).2⟩,h.blk,h.void⟩
theorem WinsAt.at {w:World} {v:Value} {xs:List WinX} {B:Nat} (h:WinsAt w v xs B) {n:Nat} {x:WinX} (hn:xs[n]?=some x):∃ g off cap,v=.slice (some ⟨g,off,none⟩) xs.length cap/\g < w.heap.size/\xs.length<=cap /\
 w.cell? ⟨g,off+n*7,none⟩=some (.string x.w.key)/\w.cell? ⟨g,off+n*7+1,none⟩=some (.int .i64 x.w.start):=by
 have hnl:n < xs.length:=(List.getElem?_eq_some_iff.1 hn).1
 rcases h.row with ⟨h1,h2⟩ | ⟨ge,off,m,cap,cur,h1,hg,h3,h4,h5,h6,h7⟩
 . have:=congrArg List.length h2
   rw [winFlat_len,List.length_nil] at this
   omega
 . have hlen:=winFlat_len xs
   rw [hlen] at h6
   have hm:m=xs.length:=by omega
   subst hm
   have hc:∀ k,k < 7->w.cell? ⟨ge,off+n*7+k,none⟩=(wxCells x)[k]?:=fun k hk=>by
    rw [<- winFlat xs n k x hn hk,<- h7 (n*7+k) (by omega)]
    simp [World.cell?,hg,Nat.add_assoc]
   exact ⟨ge,off,cap,h1,(Array.getElem?_eq_some_iff.1 hg).1,h3,hc 0 (by omega),hc 1 (by omega)⟩
theorem win_one (l:List WinX) (h:∀ x ∈ l,x.tv.oneCell'=true):∀ u ∈ l.flatMap wxCells,u.oneCell'=true:=fun u hu=>by
 obtain ⟨x,hx,hux⟩:=List.mem_flatMap.1 hu
 have:=h x hx
 simp only [wxCells,List.mem_cons,List.not_mem_nil,or_false] at hux
 rcases hux with rfl | rfl | rfl | rfl | rfl | rfl | rfl <;> simp_all [Value.oneCell']
def befW (key:ByteArray) (s:Int) (x:Win):Bool:=decide (x.start < s) || (decide (x.start=s) && Op.bytesLess x.key.toList key.toList)
def sameW (key:ByteArray) (s:Int) (x:Win):Bool:=decide (x.start=s) && keyEq x.key key
def atW (key:ByteArray) (s:Int) (ws:List Win):Nat:=(ws.takeWhile (befW key s)).length
def isAt (key:ByteArray) (s:Int) (ws:List Win):Bool:=match ws[atW key s ws]? with
 | some x=>sameW key s x
 | none=>false
def placeF (key:ByteArray) (s:Int) (x:Win) (ws:List Win):List Win:=if isAt key s ws then ws else ws.take (atW key s ws)++x :: ws.drop (atW key s ws)
theorem atW_le (key:ByteArray) (s:Int) (ws:List Win):atW key s ws<=ws.length:=(List.takeWhile_sublist _).length_le
theorem atW_spec (key:ByteArray) (s:Int) (ws:List Win):(∀ (i:Nat) x,i < atW key s ws->ws[i]?=some x->befW key s x=true)/\∀ x,ws[atW key s ws]?=some x->befW key s x=false:=by
 induction ws with
 | nil=>simp [atW]
 | cons a ws ih=>
   cases hb:befW key s a with
   | false=>
     have e:atW key s (a :: ws)=0:=by simp [atW,hb]
     rw [e]
     exact ⟨fun i x hi=>by omega,fun x hx=>by simp at hx;subst hx;exact hb⟩
   | true=>
     have e:atW key s (a :: ws)=atW key s ws+1:=by simp [atW,hb]
     rw [e]
     refine ⟨fun i x hi hx=>?_,fun x hx=>ih.2 x (by simpa using hx)⟩
     cases i with
     | zero=>simp at hx;subst hx;exact hb
     | succ i=>exact ih.1 i x (by omega) (by simpa using hx)
theorem atW_eq (key:ByteArray) (s:Int) (ws:List Win) (n:Nat) (hn:n<=ws.length) (h1:∀ (i:Nat) x,i < n->ws[i]?=some x->befW key s x=true) (h2:∀ x,ws[n]?=some x->befW key s x=false):atW key s ws=n:=by
 obtain ⟨a1,a2⟩:=atW_spec key s ws
 have a3:=atW_le key s ws
 rcases Nat.lt_trichotomy (atW key s ws) n with h | h | h
 . have hx:ws[atW key s ws]?=some ws[atW key s ws]:=List.getElem?_eq_getElem (by omega)
   have:=h1 _ _ h hx
   rw [a2 _ hx] at this;cases this
 . exact h
 . have hx:ws[n]?=some ws[n]:=List.getElem?_eq_getElem (by omega)
   have:=a1 _ _ h hx
   rw [h2 _ hx] at this;cases this
end Go.Proofs.YtcfngdnmpogaoaaGreat
namespace Go.Proofs.YtcfngdnmpogaoaaGreat
open Go.RowKit Go.MuLone
set_option maxHeartbeats 1600000
theorem minV_eq (a b:Int):minV a b=min a b:=by unfold minV;split <;> omega
theorem maxV_eq (a b:Int):maxV a b=max a b:=by unfold maxV;split <;> omega
theorem joinS_comm (a b:Int × Int):joinS a b=joinS b a:=by
 unfold joinS
 rw [minV_eq,minV_eq,maxV_eq,maxV_eq,Int.min_comm,Int.max_comm]
theorem joinS_assoc (a b c:Int × Int):joinS (joinS a b) c=joinS a (joinS b c):=by
 unfold joinS
 simp only [minV_eq,maxV_eq,Int.min_assoc,Int.max_assoc]
def spanOk (x:Int × Int):Prop:=x.1<=9223372036854775807/\-9223372036854775808<=x.2
theorem joinS_none {x:Int × Int} (h:spanOk x):joinS noneS x=x:=by
 obtain ⟨h1,h2⟩:=h
 unfold joinS noneS minV maxV
 have e1:(if x.1 < 9223372036854775807 then x.1 else 9223372036854775807)=x.1:=by split <;> omega
 have e2:(if -9223372036854775808 < x.2 then x.2 else -9223372036854775808)=x.2:=by split <;> omega
 rw [e1,e2]
theorem runS_ok (xs:List (Int × Int)):spanOk (runS xs):=by
 unfold runS
 have:∀ (xs:List (Int × Int)) (a:Int × Int),spanOk a->spanOk (xs.foldl joinS a):=by
  intro xs
  induction xs with
  | nil=>intro a h;exact h
  | cons x xs ih=>
    intro a h
    refine ih _ ⟨?_,?_⟩
    . show minV a.1 x.1<=_
      rw [minV_eq];have:=h.1;omega
    . show _<=maxV a.2 x.2
      rw [maxV_eq];have:=h.2;omega
 exact this xs noneS ⟨Int.le_refl _,Int.le_refl _⟩
theorem foldS (xs:List (Int × Int)) (a:Int × Int) (h:spanOk a):xs.foldl joinS a=joinS a (runS xs):=by
 unfold runS
 induction xs generalizing a with
 | nil=>show a=joinS a noneS;rw [joinS_comm,joinS_none h]
 | cons x xs ih=>
   have hax:spanOk (joinS a x):=by
    refine ⟨?_,?_⟩
    . show minV a.1 x.1<=_
      rw [minV_eq];have:=h.1;omega
    . show _<=maxV a.2 x.2
      rw [maxV_eq];have:=h.2;omega
   have hnx:spanOk (joinS noneS x):=by
    refine ⟨?_,?_⟩
    . show minV noneS.1 x.1<=_
      rw [minV_eq];unfold noneS;simp only;omega
    . show _<=maxV noneS.2 x.2
      rw [maxV_eq];unfold noneS;simp only;omega
   rw [List.foldl_cons,List.foldl_cons,ih _ hax,ih _ hnx,<- joinS_assoc a (joinS noneS x),<- joinS_assoc a noneS,joinS_comm a noneS,joinS_none h]
theorem runS_append (xs ys:List (Int × Int)):runS (xs++ys)=joinS (runS xs) (runS ys):=by
 have:runS (xs++ys)=ys.foldl joinS (runS xs):=by unfold runS;rw [List.foldl_append]
 rw [this,foldS _ _ (runS_ok xs)]
theorem runS_reverse (xs:List (Int × Int)):runS xs.reverse=runS xs:=by
 induction xs with
 | nil=>rfl
 | cons x xs ih=>
   rw [List.reverse_cons,runS_append,ih,show x :: xs=[x]++xs from rfl,runS_append,joinS_comm]
theorem join_stacks (cm gg:List (Int × Int)):joinS (runS cm) (runS gg)=runS (gg.reverse++cm):=by
 rw [runS_append,runS_reverse,joinS_comm]
structure Told (q:List Pane) (key:ByteArray) (start:Int) (x:Win):Prop where
 key:x.key=key
 start:x.start=start
 cnt:x.cnt=cntV (evsOf q)
 sum:x.sum=sumV (evsOf q)
 lo:x.lo=(runS (q.map Pane.span)).1
 hi:x.hi=(runS (q.map Pane.span)).2
 rise:x.tags.Pairwise (· < ·)
 tags:∀ t:Nat,t ∈ x.tags ↔ 0 < tagN q t
def nextS (r:RunS):Int:=if 0 < r.inside then r.next else match r.ps with
 | p :: _=>p.first
 | []=>0
def entR (r:RunS):RunS:={ r with inside:=enterN r.ps r.inside (nextS r) }
def stepR (slide:Int) (r:RunS):RunS:=leaveS { entR r with next:=nextS r+slide } (nextS r+slide)
def slideF (size slide lt:Int):Nat->RunS->List (Int × List Pane)->RunS × List (Int × List Pane)
 | 0,r,ws=>(r,ws)
 | n+1,r,ws=>if r.ps=[]\/lt < nextS r+size then (r,ws) else slideF size slide lt n (stepR slide r) (ws++[(nextS r,(entR r).ps.take (entR r).inside)])
def leftS (lt:Int) (r:RunS):Nat:=if r.ps=[] then 0 else (lt+1 - nextS r).toNat
theorem stepR_next (slide lt size:Int) (r:RunS) (h0:r.ps ≠ []) (h1:1<=slide) (hz:1<=size) (hlt:nextS r+size<=lt):leftS lt (stepR slide r) < leftS lt r:=by
 unfold leftS
 rw [if_neg h0]
 by_cases he:(stepR slide r).ps=[]
 . rw [if_pos he];omega
 . rw [if_neg he]
   have hkey:nextS r < nextS (stepR slide r):=by
    obtain ⟨key,ps,ins,next⟩:=r
    generalize hs:nextS ⟨key,ps,ins,next⟩=s at *
    unfold stepR at he ⊢
    simp only [hs] at he ⊢
    unfold leaveS at he ⊢
    generalize hm:leaveM { entR ⟨key,ps,ins,next⟩ with next:=s+slide } (s+slide)=m at *
    simp only at he ⊢
    have hent:(entR ⟨key,ps,ins,next⟩).ps=ps:=rfl
    have heni:(entR ⟨key,ps,ins,next⟩).inside=enterN ps ins s:=by unfold entR;rw [hs]
    rw [hent] at he
    rw [heni]
    unfold nextS
    simp only
    split
    . omega
    . rename_i hz0
      have hml:m<=enterN ps ins s:=by
       rw [<- hm]
       unfold leaveM
       have:=(List.takeWhile_sublist (l:=List.take (entR ⟨key,ps,ins,next⟩).inside (entR ⟨key,ps,ins,next⟩).ps) (fun p:Pane=>decide (p.last < s+slide))).length_le
       rw [heni,List.length_take] at this
       simp only [heni]
       omega
      have hme:m=enterN ps ins s:=by omega
      rw [hent,hme]
      rw [hme] at he
      have hlt2:enterN ps ins s < ps.length:=by
       refine Nat.lt_of_not_le (fun hge=>he (List.drop_eq_nil_of_le hge))
      rw [List.drop_eq_getElem_cons hlt2]
      simp only
      have hstop:¬ (ps[enterN ps ins s]).first<=s:=by
       unfold enterN
       have hlen:=hlt2
       unfold enterN at hlen
       intro hle
       have h3:∀ (l:List Pane) (h:(l.takeWhile (fun p=>decide (p.first<=s))).length < l.length),¬ (l[(l.takeWhile (fun p=>decide (p.first<=s))).length]).first<=s:=by
        intro l
        induction l with
        | nil=>intro h;simp at h
        | cons a l ih=>
          intro h
          by_cases ha:a.first<=s
          . have hw:(a :: l).takeWhile (fun p=>decide (p.first<=s))=a :: l.takeWhile (fun p=>decide (p.first<=s)):=by simp [ha]
            simp only [hw,List.length_cons] at h ⊢
            simp only [List.getElem_cons_succ]
            exact ih (by omega)
          . have hw:(a :: l).takeWhile (fun p=>decide (p.first<=s))=[]:=by simp [ha]
            simp only [hw,List.length_nil,List.getElem_cons_zero]
            exact ha
       have hl2:((ps.drop ins).takeWhile (fun p=>decide (p.first<=s))).length < (ps.drop ins).length:=by rw [List.length_drop];omega
       have:=h3 (ps.drop ins) hl2
       rw [List.getElem_drop] at this
       exact this hle
      omega
   omega
theorem nextStart_any (d:RunD) (r:RunS) (w:World) (h:RunAt w d r) (h0:r.ps ≠ []) :
 Calls Tryz.prog 100 #[.pointer (some ⟨d.R,0,none⟩)] w fun e w'=>e=.returned (.int .i64 (nextS r))/\w'=w:=by
 obtain ⟨r0,r1o,r2,r3,r4,-⟩:=runAt h.run
 unfold nextS
 by_cases hi:0 < r.inside
 . have hi2:(0:Int) < (r.inside:Int):=by omega
   rw [if_pos hi]
   clear h
   go_enter Tryz.func100,Tryz.ntmps100
   go_wp2
   go_ret
   exact ⟨rfl,rfl⟩
 . have hi2:¬ (0:Int) < (r.inside:Int):=by omega
   have hl:0 < r.ps.length:=List.length_pos_iff.2 h0
   obtain ⟨P,M,p,pg,po,pc,hP,hp,hpv,hq,hpa⟩:=h.mid.pane 0 hl
   obtain ⟨c0,-⟩:=paneAt hpa.pane
   rw [Nat.add_zero] at hq
   have r1:w.cell? ⟨d.R,1,none⟩=some (.slice (some ⟨pg,po,none⟩) r.ps.length pc):=by rw [<- hpv];exact r1o
   have hl0:(0:Int) < (r.ps.length:Int):=by omega
   have HE:Hid ((match r.ps with | p :: _=>p.first | []=>0)=p.first):=by
    show _=_
    cases hps:r.ps with
    | nil=>exact absurd hps h0
    | cons x l=>rw [hps] at hp;simp only [List.getElem?_cons_zero,Option.some.injEq] at hp;rw [hp]
   rw [if_neg hi,HE.out]
   clear h r1o hpv hpa
   go_enter Tryz.func100,Tryz.ntmps100
   go_wp2
   go_ret
   exact ⟨rfl,rfl⟩
end Go.Proofs.YtcfngdnmpogaoaaGreat
namespace Go.Proofs.YtcfngdnmpogaoaaGreat
open Go.RowKit
variable {T:Option Int} {r:RunS} {size slide:Int}
structure RunVirt (size slide:Int) (T:Option Int) (r:RunS):Prop where
 sorted:Sorted r.ps
 pane:∀ p ∈ r.ps,p.evs ≠ []/\∀ e ∈ p.evs,e.key=r.key/\winFirst size slide e.t=p.first/\winLast slide e.t=p.last
 rem:∀ p ∈ r.ps,toldB T (p.last+size)=false
 ins:∀ (i:Nat) p,r.ps[i]?=some p->(i < r.inside ↔ toldB T (p.first+size)=true)
 insLe:r.inside<=r.ps.length
 nxt:0 < r.inside->∀ t,T=some t->r.next=down (t - size) slide+slide
theorem RunGood.virt (h:RunGood size slide T r):RunVirt size slide T r:=⟨h.sorted,h.pane,h.rem,h.ins,h.insLe,h.nxt⟩
theorem winFirst_dvd (size slide t:Int):slide ∣ winFirst size slide t:=by
 unfold winFirst
 exact Int.dvd_add (down_dvd _ _) (Int.dvd_refl _)
theorem RunVirt.bounds (h:RunVirt size slide T r) (h1:1<=slide) (h2:slide<=size) {p:Pane} (hp:p ∈ r.ps):slide ∣ p.first/\slide ∣ p.last/\p.first<=p.last:=by
 obtain ⟨hne,he⟩:=h.pane p hp
 obtain ⟨e,hm⟩:=List.exists_mem_of_ne_nil _ hne
 obtain ⟨-,e1,e2⟩:=he e hm
 rw [<- e1,<- e2]
 exact ⟨winFirst_dvd _ _ _,down_dvd _ _,winFirst_le_last size slide e.t h1 h2⟩
theorem RunVirt.mono (h:RunVirt size slide T r) (h1:1<=slide) {i j:Nat} {p q:Pane} (hi:r.ps[i]?=some p) (hj:r.ps[j]?=some q) (hij:i<=j):p.first<=q.first/\p.last<=q.last:=by
 by_cases he:i=j
 . subst he;rw [hi] at hj;cases hj;exact ⟨Int.le_refl _,Int.le_refl _⟩
 . have hlt:=cmpW_lt.1 (h.sorted i j p q (by omega) hi hj)
   rcases hlt with hlt | ⟨e1,e2⟩
   . obtain ⟨hne,he⟩:=h.pane p (List.mem_of_getElem? hi)
     obtain ⟨hne',he'⟩:=h.pane q (List.mem_of_getElem? hj)
     obtain ⟨e,hm⟩:=List.exists_mem_of_ne_nil _ hne
     obtain ⟨f,hm'⟩:=List.exists_mem_of_ne_nil _ hne'
     obtain ⟨-,a1,a2⟩:=he e hm
     obtain ⟨-,b1,b2⟩:=he' f hm'
     have hef:e.t<=f.t:=by
      refine Int.le_of_not_gt (fun hgt=>?_)
      have:=winFirst_mono size slide f.t e.t h1 (by omega)
      omega
     have:=winLast_mono slide e.t f.t h1 hef
     omega
   . omega
theorem toldB_some (t x:Int):toldB (some t) x=decide (x<=t):=rfl
theorem RunVirt.start (h:RunVirt size slide T r) (h1:1<=slide) (h2:slide<=size) (h0:r.ps ≠ []) :
 slide ∣ nextS r/\(∀ p ∈ r.ps,nextS r<=p.last)/\toldB T (nextS r+size)=false/\(∀ (i:Nat) p,r.ps[i]?=some p->i < r.inside->p.first<=nextS r)/\(∀ s,slide ∣ s->toldB T (s+size)=false->s < nextS r->∀ p ∈ r.ps,¬ p.first<=s)/\∃ p ∈ r.ps,p.first<=nextS r:=by
 have hlen:0 < r.ps.length:=List.length_pos_iff.2 h0
 have hp0:r.ps[0]?=some r.ps[0]:=List.getElem?_eq_getElem hlen
 have hm0:r.ps[0] ∈ r.ps:=List.getElem_mem hlen
 by_cases hi:0 < r.inside
 . have hn:nextS r=r.next:=by unfold nextS;rw [if_pos hi]
   have htold:=(h.ins 0 _ hp0).1 hi
   obtain ⟨t,rfl⟩:∃ t,T=some t:=by
    cases hT:T with
    | none=>rw [hT] at htold;cases htold
    | some t=>exact ⟨t,rfl⟩
   have hnx:=h.nxt hi t rfl
   obtain ⟨d1,d2⟩:=down_le (t - size) slide h1
   have hdv:=down_dvd (t - size) slide
   rw [hn,hnx]
   refine ⟨Int.dvd_add hdv (Int.dvd_refl _),fun p hp=>?_,?_,fun i p hpi hii=>?_,fun s hs ht hlt=>?_,r.ps[0],hm0,?_⟩
   . have hr:=h.rem p hp
     rw [toldB_some] at hr
     simp only [decide_eq_false_iff_not] at hr
     obtain ⟨-,b2,-⟩:=h.bounds h1 h2 hp
     exact mul_gap _ _ slide h1 hdv b2 (by omega)
   . rw [toldB_some];exact decide_eq_false (by omega)
   . have:=(h.ins i p hpi).1 hii
     rw [toldB_some] at this
     simp only [decide_eq_true_eq] at this
     omega
   . rw [toldB_some] at ht
     simp only [decide_eq_false_iff_not] at ht
     have hge:down (t - size) slide < s:=by omega
     have:=mul_gap _ _ slide h1 hdv hs hge
     omega
   . rw [toldB_some] at htold
     simp only [decide_eq_true_eq] at htold
     omega
 . have hn:nextS r=r.ps[0].first:=by
    unfold nextS
    rw [if_neg hi]
    obtain ⟨key,ps,ins,nx⟩:=r
    cases ps with
    | nil=>exact absurd rfl h0
    | cons p l=>rfl
   obtain ⟨b1,-,-⟩:=h.bounds h1 h2 hm0
   have hfirst:∀ p ∈ r.ps,r.ps[0].first<=p.first:=fun p hp=>by
    obtain ⟨j,hj,rfl⟩:=List.mem_iff_getElem.1 hp
    exact (h.mono h1 hp0 (List.getElem?_eq_getElem hj) (Nat.zero_le _)).1
   rw [hn]
   refine ⟨b1,fun p hp=>?_,?_,fun i p hpi hii=>by omega,fun s hs ht hlt p hp hle=>?_,r.ps[0],hm0,Int.le_refl _⟩
   . obtain ⟨-,-,b3⟩:=h.bounds h1 h2 hp
     have:=hfirst p hp
     omega
   . cases hT:toldB T (r.ps[0].first+size) with
     | false=>rfl
     | true=>exact absurd ((h.ins 0 _ hp0).2 hT) hi
   . have:=hfirst p hp
     omega
theorem RunVirt.entered (h:RunVirt size slide T r) (h1:1<=slide) (h2:slide<=size) (h0:r.ps ≠ []):(entR r).inside<=r.ps.length/\∀ (i:Nat) p,r.ps[i]?=some p->(i < (entR r).inside ↔ p.first<=nextS r):=by
 obtain ⟨-,-,-,hin,-,-⟩:=h.start h1 h2 h0
 have hkey:∀ (l:List Pane) (s:Int),(∀ (i j:Nat) p q,l[i]?=some p->l[j]?=some q->i<=j->p.first<=q.first)->∀ (i:Nat) p,l[i]?=some p->(i < (l.takeWhile (fun p=>decide (p.first<=s))).length ↔ p.first<=s):=by
  intro l s
  induction l with
  | nil=>intro _ i p hp;simp at hp
  | cons a l ih=>
    intro hm i p hp
    by_cases ha:a.first<=s
    . rw [List.takeWhile_cons]
      simp only [ha,decide_true,if_true,List.length_cons]
      cases i with
      | zero=>simp at hp;subst hp;simp [ha]
      | succ i=>
        rw [Nat.add_lt_add_iff_right]
        exact ih (fun i j p q hi hj hij=>hm (i+1) (j+1) p q (by simpa using hi) (by simpa using hj) (by omega)) i p (by simpa using hp)
    . rw [List.takeWhile_cons]
      simp only [ha,decide_false,Bool.false_eq_true,if_false,List.length_nil]
      constructor
      . intro hh;omega
      . intro hh
        have:=hm 0 i a p rfl hp (Nat.zero_le _)
        omega
 have hE:(entR r).inside=r.inside+((r.ps.drop r.inside).takeWhile (fun p=>decide (p.first<=nextS r))).length:=rfl
 refine ⟨?_,fun i p hp=>?_⟩
 . rw [hE]
   have:=(List.takeWhile_sublist (l:=r.ps.drop r.inside) (fun p=>decide (p.first<=nextS r))).length_le
   rw [List.length_drop] at this
   have:=h.insLe
   omega
 . rw [hE]
   by_cases hi:i < r.inside
   . exact ⟨fun _=>hin i p hp hi,fun _=>by omega⟩
   . have hd:(r.ps.drop r.inside)[i - r.inside]?=some p:=by
      rw [List.getElem?_drop,show r.inside+(i - r.inside)=i from by omega];exact hp
     have:=hkey (r.ps.drop r.inside) (nextS r) (fun a b x y hx hy hab=>(h.mono h1 (by rw [List.getElem?_drop] at hx;exact hx) (by rw [List.getElem?_drop] at hy;exact hy) (by omega)).1) (i - r.inside) p hd
     rw [<- this]
     omega
end Go.Proofs.YtcfngdnmpogaoaaGreat
namespace Go.Proofs.YtcfngdnmpogaoaaGreat
open Go.RowKit
variable {slide:Int}
theorem tw_prefix {α:Type} (f:α->Bool) (l:List α) (hm:∀ (i j:Nat) p q,l[i]?=some p->l[j]?=some q->i<=j->f q=true->f p=true) (i:Nat) (p:α) (hp:l[i]?=some p):i < (l.takeWhile f).length ↔ f p=true:=by
 induction l generalizing i with
 | nil=>simp at hp
 | cons a l ih=>
   rw [List.takeWhile_cons]
   cases ha:f a with
   | true=>
     simp only [if_true,List.length_cons]
     cases i with
     | zero=>simp at hp;subst hp;simp [ha]
     | succ i=>
       rw [Nat.add_lt_add_iff_right]
       exact ih (fun i j p q hi hj hij=>hm (i+1) (j+1) p q (by simpa using hi) (by simpa using hj) (by omega)) i (by simpa using hp)
   | false=>
     simp only [Bool.false_eq_true,if_false,List.length_nil]
     constructor
     . intro hh;omega
     . intro hh
       have:=hm 0 i a p rfl hp (Nat.zero_le _) hh
       rw [ha] at this;cases this
theorem take_filter {α:Type} (f:α->Bool) (l:List α) (k:Nat) (h:∀ (i:Nat) p,l[i]?=some p->(i < k ↔ f p=true)):l.take k=l.filter f:=by
 induction l generalizing k with
 | nil=>simp
 | cons a l ih=>
   have h0:=h 0 a rfl
   cases k with
   | zero=>
     have hf:∀ p ∈ a :: l,f p=false:=fun p hp=>by
      obtain ⟨j,hj,rfl⟩:=List.mem_iff_getElem.1 hp
      have:=h j _ (List.getElem?_eq_getElem hj)
      cases hx:f (a :: l)[j] with
      | false=>rfl
      | true=>have:=this.2 hx;omega
     rw [List.take_zero,List.filter_eq_nil_iff.2 (fun p hp=>by rw [hf p hp];simp)]
   | succ k=>
     rw [List.take_succ_cons,List.filter_cons,if_pos (h0.1 (by omega)),ih k (fun i p hp=>by
      have:=h (i+1) p (by simpa using hp)
      rw [<- this];omega)]
theorem drop_filter {α:Type} (f:α->Bool) (l:List α) (k:Nat) (h:∀ (i:Nat) p,l[i]?=some p->(i < k ↔ f p=false)):l.drop k=l.filter f:=by
 induction l generalizing k with
 | nil=>simp
 | cons a l ih=>
   have h0:=h 0 a rfl
   cases k with
   | zero=>
     have hf:∀ p ∈ a :: l,f p=true:=fun p hp=>by
      obtain ⟨j,hj,rfl⟩:=List.mem_iff_getElem.1 hp
      have:=h j _ (List.getElem?_eq_getElem hj)
      cases hx:f (a :: l)[j] with
      | true=>rfl
      | false=>have:=this.2 hx;omega
     rw [List.drop_zero,List.filter_eq_self.2 hf]
   | succ k=>
     rw [List.drop_succ_cons,List.filter_cons,if_neg (by rw [h0.1 (by omega)];simp),ih k (fun i p hp=>by
      have:=h (i+1) p (by simpa using hp)
      rw [<- this];omega)]
theorem down_self {s:Int} (h:slide ∣ s):down s slide=s:=by
 unfold down
 rw [Int.emod_eq_zero_of_dvd h];omega
theorem RunVirt.step {size:Int} {T:Option Int} {r:RunS} (h:RunVirt size slide T r) (h1:1<=slide) (h2:slide<=size) (h0:r.ps ≠ []) :
 RunVirt size slide (some (nextS r+size)) (stepR slide r)/\(stepR slide r).ps=r.ps.filter (fun p=>decide (nextS r < p.last))/\(entR r).ps.take (entR r).inside=r.ps.filter (fun p=>decide (p.first<=nextS r) && decide (nextS r<=p.last)):=by
 obtain ⟨s1,s2,s3,s4,s5,s6⟩:=h.start h1 h2 h0
 obtain ⟨k1,k2⟩:=h.entered h1 h2 h0
 generalize hS:nextS r=S at *
 have hgap:∀ p ∈ r.ps,(p.last < S+slide ↔ ¬ S < p.last):=fun p hp=>by
  obtain ⟨-,b2,-⟩:=h.bounds h1 h2 hp
  constructor
  . intro hh hlt
    have:=mul_gap _ _ slide h1 s1 b2 hlt
    omega
  . intro hh;omega
 have hmdef:leaveM { entR r with next:=S+slide } (S+slide)=((r.ps.take (entR r).inside).takeWhile (fun p=>decide (p.last < S+slide))).length:=rfl
 generalize hM:leaveM { entR r with next:=S+slide } (S+slide)=m at *
 have hm:∀ (i:Nat) p,r.ps[i]?=some p->(i < m ↔ decide (S < p.last)=false):=fun i p hp=>by
  have hpm:=List.mem_of_getElem? hp
  rw [decide_eq_false_iff_not,<- hgap p hpm]
  by_cases hi:i < (entR r).inside
  . have ht:(r.ps.take (entR r).inside)[i]?=some p:=by rw [List.getElem?_take,if_pos hi];exact hp
    rw [hmdef]
    have:=tw_prefix (fun p:Pane=>decide (p.last < S+slide)) (r.ps.take (entR r).inside) (fun a b x y hx hy hab hf=>by
     rw [List.getElem?_take] at hx hy
     split at hx
     . split at hy
       . have:=(h.mono h1 hx hy hab).2
         simp only [decide_eq_true_eq] at hf ⊢
         omega
       . cases hy
     . cases hx) i p ht
    rw [this];simp
  . have hml:m<=(entR r).inside:=by
     rw [hmdef]
     have:=(List.takeWhile_sublist (l:=r.ps.take (entR r).inside) (fun p=>decide (p.last < S+slide))).length_le
     rw [List.length_take] at this
     omega
    have hnf:¬ p.first<=S:=fun hh=>hi ((k2 i p hp).2 hh)
    obtain ⟨-,-,b3⟩:=h.bounds h1 h2 hpm
    constructor
    . intro hh;omega
    . intro hh
      have:=(hgap p hpm).1 hh
      omega
 have hps:(stepR slide r).ps=r.ps.drop m:=by
  unfold stepR leaveS
  rw [hS,hM];rfl
 have hins:(stepR slide r).inside=(entR r).inside - m:=by
  unfold stepR leaveS
  rw [hS,hM]
 have hnx:(stepR slide r).next=S+slide:=by
  unfold stepR leaveS
  rw [hS]
 have hky:(stepR slide r).key=r.key:=rfl
 refine ⟨⟨fun i j p q hij hi hj=>?_,fun p hp=>?_,fun p hp=>?_,fun i p hp=>?_,?_,fun _ t ht=>?_⟩,?_,?_⟩
 . rw [hps,List.getElem?_drop] at hi hj
   exact h.sorted _ _ p q (by omega) hi hj
 . rw [hps] at hp
   rw [hky];exact h.pane p (List.mem_of_mem_drop hp)
 . rw [hps] at hp
   obtain ⟨i,hi,rfl⟩:=List.mem_iff_getElem.1 hp
   rw [List.length_drop] at hi
   have hg:r.ps[m+i]?=some (r.ps.drop m)[i]:=by
    rw [List.getElem_drop];exact List.getElem?_eq_getElem (by omega)
   have:=hm (m+i) _ hg
   rw [toldB_some]
   cases hd:decide (S < ((r.ps.drop m)[i]).last) with
   | false=>have:=this.2 hd;omega
   | true=>
     simp only [decide_eq_true_eq] at hd
     exact decide_eq_false (by omega)
 . rw [hps,List.getElem?_drop] at hp
   rw [hins,toldB_some,decide_eq_true_eq]
   have:=k2 (m+i) p hp
   constructor
   . intro hh
     have:=this.1 (by omega)
     omega
   . intro hh
     have:=this.2 (by omega)
     omega
 . rw [hins,hps,List.length_drop];omega
 . simp only [Option.some.injEq] at ht
   rw [hnx,<- ht,show S+size - size=S from by omega,down_self s1]
 . rw [hps]
   exact drop_filter _ _ m hm
 . show r.ps.take (entR r).inside=_
   refine take_filter _ _ _ (fun i p hp=>?_)
   rw [k2 i p hp]
   have:=s2 p (List.mem_of_getElem? hp)
   simp [this]
theorem RunVirt.stop {size:Int} {T:Option Int} {lt:Int} {r:RunS} (h:RunVirt size slide T r) (h1:1<=slide) (h2:slide<=size) (hT:∀ t,T=some t->t<=lt) (hs:r.ps=[]\/lt < nextS r+size):RunVirt size slide (some lt) r/\(∀ p ∈ r.ps,lt < p.last+size)/\∀ s,slide ∣ s->toldB T (s+size)=false->s+size<=lt->∀ p ∈ r.ps,¬ p.first<=s:=by
 by_cases h0:r.ps=[]
 . have hi:r.inside=0:=by have:=h.insLe;rw [h0] at this;simpa using this
   exact ⟨⟨h.sorted,h.pane,fun p hp=>(by rw [h0] at hp;cases hp),fun i p hp=>(by rw [h0] at hp;simp at hp),h.insLe,fun hh=>(by omega)⟩,fun p hp=>(by rw [h0] at hp;cases hp),fun s _ _ _ p hp=>(by rw [h0] at hp;cases hp)⟩
 . obtain ⟨s1,s2,s3,s4,s5,s6⟩:=h.start h1 h2 h0
   have hlt:=hs.resolve_left h0
   have hrem:∀ p ∈ r.ps,lt < p.last+size:=fun p hp=>by have:=s2 p hp;omega
   refine ⟨⟨h.sorted,h.pane,fun p hp=>by rw [toldB_some];exact decide_eq_false (by have:=hrem p hp;omega),fun i p hp=>?_,h.insLe,fun hi t ht=>?_⟩,hrem,fun s hd ht hl p hp=>s5 s hd ht (by omega) p hp⟩
   . rw [h.ins i p hp]
     constructor
     . intro hh
       cases hTT:T with
       | none=>rw [hTT] at hh;cases hh
       | some t=>
         rw [hTT,toldB_some,decide_eq_true_eq] at hh
         have:=hT t hTT
         rw [toldB_some];exact decide_eq_true (by omega)
     . intro hh
       rw [toldB_some,decide_eq_true_eq] at hh
       refine Classical.byContradiction (fun hn=>?_)
       have hf:toldB T (p.first+size)=false:=by
        cases hx:toldB T (p.first+size) with
        | false=>rfl
        | true=>exact absurd hx hn
       obtain ⟨b1,-,-⟩:=h.bounds h1 h2 (List.mem_of_getElem? hp)
       exact s5 p.first b1 hf (by omega) p (List.mem_of_getElem? hp) (Int.le_refl _)
   . simp only [Option.some.injEq] at ht
     subst ht
     have hn:nextS r=r.next:=by unfold nextS;rw [if_pos hi]
     have hlen:0 < r.ps.length:=List.length_pos_iff.2 h0
     have htold:=(h.ins 0 _ (List.getElem?_eq_getElem hlen)).1 hi
     obtain ⟨t,rfl⟩:∃ t,T=some t:=by
      cases hT2:T with
      | none=>rw [hT2] at htold;cases htold
      | some t=>exact ⟨t,rfl⟩
     have hnx:=h.nxt hi t rfl
     have htl:=hT t rfl
     rw [hn] at hlt
     obtain ⟨d1,d2⟩:=down_le (t - size) slide h1
     obtain ⟨d3,d4⟩:=down_le (lt - size) slide h1
     have hdv:=down_dvd (t - size) slide
     have hdv2:=down_dvd (lt - size) slide
     have hm:=down_mono (t - size) (lt - size) slide h1 (by omega)
     rw [hnx] at hlt ⊢
     by_cases heq:down (t - size) slide=down (lt - size) slide
     . rw [heq]
     . have:=mul_gap _ _ slide h1 hdv hdv2 (by omega)
       omega
end Go.Proofs.YtcfngdnmpogaoaaGreat
namespace Go.Proofs.YtcfngdnmpogaoaaGreat
open Go.RowKit
def inPanes (ps:List Pane) (s:Int):List Pane:=ps.filter (fun p=>decide (p.first<=s) && decide (s<=p.last))
structure Slid3 (size slide:Int) (T:Option Int) (lt:Int) (ps:List Pane) (vs:List (Int × List Pane)):Prop where
 order:vs.Pairwise (fun a b=>a.1 < b.1)
 sound:∀ x ∈ vs,slide ∣ x.1/\toldB T (x.1+size)=false/\x.1+size<=lt/\(∃ p ∈ ps,p.first<=x.1/\x.1<=p.last)/\x.2=inPanes ps x.1
 full:∀ s,slide ∣ s->toldB T (s+size)=false->s+size<=lt->(∃ p ∈ ps,p.first<=s/\s<=p.last)->∃ x ∈ vs,x.1=s
theorem slideF_spec (size slide lt:Int) (h1:1<=slide) (h2:slide<=size):∀ (n:Nat) (r:RunS) (T:Option Int) (ws:List (Int × List Pane)),RunVirt size slide T r->leftS lt r < n->(∀ t,T=some t->t<=lt) ->
 ∃ vs,(slideF size slide lt n r ws).2=ws++vs/\Slid3 size slide T lt r.ps vs/\RunVirt size slide (some lt) (slideF size slide lt n r ws).1/\(slideF size slide lt n r ws).1.ps=r.ps.filter (fun p=>decide (lt < p.last+size))/\(slideF size slide lt n r ws).1.key=r.key
 | 0,r,T,ws,_,hf,_=>by omega
 | n+1,r,T,ws,h,hf,hT=>by
   rw [slideF]
   by_cases hs:r.ps=[]\/lt < nextS r+size
   . rw [if_pos hs]
     obtain ⟨a1,a2,a3⟩:=h.stop h1 h2 hT hs
     refine ⟨[],by simp,⟨List.Pairwise.nil,fun x hx=>(by cases hx),fun s hd ht hl hp=>?_⟩,a1,?_,rfl⟩
     . obtain ⟨p,hp,hf,-⟩:=hp
       exact absurd hf (a3 s hd ht hl p hp)
     . exact (List.filter_eq_self.2 (fun p hp=>decide_eq_true (a2 p hp))).symm
   . rw [if_neg hs]
     have h0:r.ps ≠ []:=fun e=>hs (.inl e)
     have hle:nextS r+size<=lt:=Int.le_of_not_gt (fun e=>hs (.inr e))
     obtain ⟨s1,s2,s3,s4,s5,s6⟩:=h.start h1 h2 h0
     obtain ⟨v1,v2,v3⟩:=h.step h1 h2 h0
     have hdec:=stepR_next slide lt size r h0 h1 (by omega) hle
     obtain ⟨vs,e1,e2,e3,e4,e5⟩:=slideF_spec size slide lt h1 h2 n (stepR slide r) (some (nextS r+size)) (ws++[(nextS r,(entR r).ps.take (entR r).inside)]) v1 (by omega) (fun t ht=>by simp only [Option.some.injEq] at ht;omega)
     generalize hS:nextS r=S at *
     have hmem:∀ p,p ∈ (stepR slide r).ps ↔ p ∈ r.ps/\S < p.last:=fun p=>by rw [v2,List.mem_filter];simp
     have hin:∀ s,S < s->inPanes (stepR slide r).ps s=inPanes r.ps s:=fun s hss=>by
      unfold inPanes
      rw [v2,List.filter_filter]
      refine List.filter_congr (fun p hp=>?_)
      by_cases hl:s<=p.last
      . have:S < p.last:=by omega
        simp [hl,this]
      . simp [hl]
     refine ⟨(S,(entR r).ps.take (entR r).inside) :: vs,by rw [e1];simp,⟨List.pairwise_cons.2 ⟨fun y hy=>?_,e2.order⟩,fun y hy=>?_,fun s hd ht hl hp=>?_⟩,e3,?_,e5⟩
     . obtain ⟨-,y2,-,-⟩:=e2.sound y hy
       rw [toldB_some] at y2
       simp only [decide_eq_false_iff_not] at y2
       show S < y.1
       omega
     . rcases List.mem_cons.1 hy with rfl | hy
       . refine ⟨s1,s3,hle,?_,v3⟩
         obtain ⟨p,hp,hpf⟩:=s6
         exact ⟨p,hp,hpf,s2 p hp⟩
       . obtain ⟨y1,y2,y3,⟨p,hp,hpf,hpl⟩,y5⟩:=e2.sound y hy
         rw [toldB_some] at y2
         simp only [decide_eq_false_iff_not] at y2
         have hSy:S < y.1:=by omega
         refine ⟨y1,?_,y3,⟨p,((hmem p).1 hp).1,hpf,hpl⟩,by rw [y5,hin _ hSy]⟩
         cases hTT:T with
         | none=>rfl
         | some t=>
           rw [hTT,toldB_some] at s3
           simp only [decide_eq_false_iff_not] at s3
           rw [toldB_some];exact decide_eq_false (by omega)
     . obtain ⟨p,hp,hpf,hpl⟩:=hp
       rcases Int.lt_trichotomy s S with hlt | rfl | hgt
       . exact absurd hpf (s5 s hd ht hlt p hp)
       . exact ⟨_,List.mem_cons_self ..,rfl⟩
       . obtain ⟨x,hx,hxs⟩:=e2.full s hd (by rw [toldB_some];exact decide_eq_false (by omega)) hl ⟨p,(hmem p).2 ⟨hp,by omega⟩,hpf,hpl⟩
         exact ⟨x,List.mem_cons_of_mem _ hx,hxs⟩
     . rw [e4,v2,List.filter_filter]
       refine List.filter_congr (fun p hp=>?_)
       by_cases hl:lt < p.last+size
       . have:S < p.last:=by omega
         simp [hl,this]
       . simp [hl]
end Go.Proofs.YtcfngdnmpogaoaaGreat
