import Derived.Test.YtcfngdnmpogaoaaGreatTkU14
import Derived.Test.YtcfngdnmpogaoaaGreatTkU15
import Derived.Test.YtcfngdnmpogaoaaGreatTkT02
namespace Go.Proofs.YtcfngdnmpogaoaaGreat
open Go.RowKit
variable {slide:Int}
theorem tw_prefix {α:Type} (f:α->Bool) (l:List α) (hm:∀ (i j:Nat) p q,l[i]?=some p->l[j]?=some q->i<=j->f q=true->f p=true) (i:Nat) (p:α) (hp:l[i]?=some p):i < (l.takeWhile f).length ↔ f p=true:=by
 induction l generalizing i with
 | nil=>simp at hp
 | cons a l ih=>
   rw [List.takeWhile_cons]
   cases ha:f a with
   | true=>
     simp only [if_true,List.length_cons]
     cases i with
     | zero=>simp at hp;subst hp;simp [ha]
     | succ i=>
       rw [Nat.add_lt_add_iff_right]
       exact ih (fun i j p q hi hj hij=>hm (i+1) (j+1) p q (by simpa using hi) (by simpa using hj) (by omega)) i (by simpa using hp)
   | false=>
     simp only [Bool.false_eq_true,if_false,List.length_nil]
     constructor
     . intro hh;omega
     . intro hh
       have:=hm 0 i a p rfl hp (Nat.zero_le _) hh
       rw [ha] at this;cases this
theorem take_filter {α:Type} (f:α->Bool) (l:List α) (k:Nat) (h:∀ (i:Nat) p,l[i]?=some p->(i < k ↔ f p=true)):l.take k=l.filter f:=by
 induction l generalizing k with
 | nil=>simp
 | cons a l ih=>
   have h0:=h 0 a rfl
   cases k with
   | zero=>
     have hf:∀ p ∈ a :: l,f p=false:=fun p hp=>by
      obtain ⟨j,hj,rfl⟩:=List.mem_iff_getElem.1 hp
      have:=h j _ (List.getElem?_eq_getElem hj)
      cases hx:f (a :: l)[j] with
      | false=>rfl
      | true=>have:=this.2 hx;omega
     rw [List.take_zero,List.filter_eq_nil_iff.2 (fun p hp=>by rw [hf p hp];simp)]
   | succ k=>
     rw [List.take_succ_cons,List.filter_cons,if_pos (h0.1 (by omega)),ih k (fun i p hp=>by
      have:=h (i+1) p (by simpa using hp)
      rw [<- this];omega)]
theorem drop_filter {α:Type} (f:α->Bool) (l:List α) (k:Nat) (h:∀ (i:Nat) p,l[i]?=some p->(i < k ↔ f p=false)):l.drop k=l.filter f:=by
 induction l generalizing k with
 | nil=>simp
 | cons a l ih=>
   have h0:=h 0 a rfl
   cases k with
   | zero=>
     have hf:∀ p ∈ a :: l,f p=true:=fun p hp=>by
      obtain ⟨j,hj,rfl⟩:=List.mem_iff_getElem.1 hp
      have:=h j _ (List.getElem?_eq_getElem hj)
      cases hx:f (a :: l)[j] with
      | true=>rfl
      | false=>have:=this.2 hx;omega
     rw [List.drop_zero,List.filter_eq_self.2 hf]
   | succ k=>
     rw [List.drop_succ_cons,List.filter_cons,if_neg (by rw [h0.1 (by omega)];simp),ih k (fun i p hp=>by
      have:=h (i+1) p (by simpa using hp)
      rw [<- this];omega)]
theorem down_self {s:Int} (h:slide ∣ s):down s slide=s:=by
 unfold down
 rw [Int.emod_eq_zero_of_dvd h];omega
theorem RunVirt.step {size:Int} {T:Option Int} {r:RunS} (h:RunVirt size slide T r) (h1:1<=slide) (h2:slide<=size) (h0:r.ps ≠ []) :
 RunVirt size slide (some (nextS r+size)) (stepR slide r)/\(stepR slide r).ps=r.ps.filter (fun p=>decide (nextS r < p.last))/\(entR r).ps.take (entR r).inside=r.ps.filter (fun p=>decide (p.first<=nextS r) && decide (nextS r<=p.last)):=by
 obtain ⟨s1,s2,s3,s4,s5,s6⟩:=h.start h1 h2 h0
 obtain ⟨k1,k2⟩:=h.entered h1 h2 h0
 generalize hS:nextS r=S at *
 have hgap:∀ p ∈ r.ps,(p.last < S+slide ↔ ¬ S < p.last):=fun p hp=>by
  obtain ⟨-,b2,-⟩:=h.bounds h1 h2 hp
  constructor
  . intro hh hlt
    have:=mul_gap _ _ slide h1 s1 b2 hlt
    omega
  . intro hh;omega
 have hmdef:leaveM { entR r with next:=S+slide } (S+slide)=((r.ps.take (entR r).inside).takeWhile (fun p=>decide (p.last < S+slide))).length:=rfl
 generalize hM:leaveM { entR r with next:=S+slide } (S+slide)=m at *
 have hm:∀ (i:Nat) p,r.ps[i]?=some p->(i < m ↔ decide (S < p.last)=false):=fun i p hp=>by
  have hpm:=List.mem_of_getElem? hp
  rw [decide_eq_false_iff_not,<- hgap p hpm]
  by_cases hi:i < (entR r).inside
  . have ht:(r.ps.take (entR r).inside)[i]?=some p:=by rw [List.getElem?_take,if_pos hi];exact hp
    rw [hmdef]
    have:=tw_prefix (fun p:Pane=>decide (p.last < S+slide)) (r.ps.take (entR r).inside) (fun a b x y hx hy hab hf=>by
     rw [List.getElem?_take] at hx hy
     split at hx
     . split at hy
       . have:=(h.mono h1 hx hy hab).2
         simp only [decide_eq_true_eq] at hf ⊢
         omega
       . cases hy
     . cases hx) i p ht
    rw [this];simp
  . have hml:m<=(entR r).inside:=by
     rw [hmdef]
     have:=(List.takeWhile_sublist (l:=r.ps.take (entR r).inside) (fun p=>decide (p.last < S+slide))).length_le
     rw [List.length_take] at this
     omega
    have hnf:¬ p.first<=S:=fun hh=>hi ((k2 i p hp).2 hh)
    obtain ⟨-,-,b3⟩:=h.bounds h1 h2 hpm
    constructor
    . intro hh;omega
    . intro hh
      have:=(hgap p hpm).1 hh
      omega
 have hps:(stepR slide r).ps=r.ps.drop m:=by
  unfold stepR leaveS
  rw [hS,hM];rfl
 have hins:(stepR slide r).inside=(entR r).inside - m:=by
  unfold stepR leaveS
  rw [hS,hM]
 have hnx:(stepR slide r).next=S+slide:=by
  unfold stepR leaveS
  rw [hS]
 have hky:(stepR slide r).key=r.key:=rfl
 refine ⟨⟨fun i j p q hij hi hj=>?_,fun p hp=>?_,fun p hp=>?_,fun i p hp=>?_,?_,fun _ t ht=>?_⟩,?_,?_⟩
 . rw [hps,List.getElem?_drop] at hi hj
   exact h.sorted _ _ p q (by omega) hi hj
 . rw [hps] at hp
   rw [hky];exact h.pane p (List.mem_of_mem_drop hp)
 . rw [hps] at hp
   obtain ⟨i,hi,rfl⟩:=List.mem_iff_getElem.1 hp
   rw [List.length_drop] at hi
   have hg:r.ps[m+i]?=some (r.ps.drop m)[i]:=by
    rw [List.getElem_drop];exact List.getElem?_eq_getElem (by omega)
   have:=hm (m+i) _ hg
   rw [toldB_some]
   cases hd:decide (S < ((r.ps.drop m)[i]).last) with
   | false=>have:=this.2 hd;omega
   | true=>
     simp only [decide_eq_true_eq] at hd
     exact decide_eq_false (by omega)
 . rw [hps,List.getElem?_drop] at hp
   rw [hins,toldB_some,decide_eq_true_eq]
   have:=k2 (m+i) p hp
   constructor
   . intro hh
     have:=this.1 (by omega)
     omega
   . intro hh
     have:=this.2 (by omega)
     omega
 . rw [hins,hps,List.length_drop];omega
 . simp only [Option.some.injEq] at ht
   rw [hnx,<- ht,show S+size - size=S from by omega,down_self s1]
 . rw [hps]
   exact drop_filter _ _ m hm
 . show r.ps.take (entR r).inside=_
   refine take_filter _ _ _ (fun i p hp=>?_)
   rw [k2 i p hp]
   have:=s2 p (List.mem_of_getElem? hp)
   simp [this]
theorem RunVirt.stop {size:Int} {T:Option Int} {lt:Int} {r:RunS} (h:RunVirt size slide T r) (h1:1<=slide) (h2:slide<=size) (hT:∀ t,T=some t->t<=lt) (hs:r.ps=[]\/lt < nextS r+size):RunVirt size slide (some lt) r/\(∀ p ∈ r.ps,lt < p.last+size)/\∀ s,slide ∣ s->toldB T (s+size)=false->s+size<=lt->∀ p ∈ r.ps,¬ p.first<=s:=by
 by_cases h0:r.ps=[]
 . have hi:r.inside=0:=by have:=h.insLe;rw [h0] at this;simpa using this
   exact ⟨⟨h.sorted,h.pane,fun p hp=>(by rw [h0] at hp;cases hp),fun i p hp=>(by rw [h0] at hp;simp at hp),h.insLe,fun hh=>(by omega)⟩,fun p hp=>(by rw [h0] at hp;cases hp),fun s _ _ _ p hp=>(by rw [h0] at hp;cases hp)⟩
 . obtain ⟨s1,s2,s3,s4,s5,s6⟩:=h.start h1 h2 h0
   have hlt:=hs.resolve_left h0
   have hrem:∀ p ∈ r.ps,lt < p.last+size:=fun p hp=>by have:=s2 p hp;omega
   refine ⟨⟨h.sorted,h.pane,fun p hp=>by rw [toldB_some];exact decide_eq_false (by have:=hrem p hp;omega),fun i p hp=>?_,h.insLe,fun hi t ht=>?_⟩,hrem,fun s hd ht hl p hp=>s5 s hd ht (by omega) p hp⟩
   . rw [h.ins i p hp]
     constructor
     . intro hh
       cases hTT:T with
       | none=>rw [hTT] at hh;cases hh
       | some t=>
         rw [hTT,toldB_some,decide_eq_true_eq] at hh
         have:=hT t hTT
         rw [toldB_some];exact decide_eq_true (by omega)
     . intro hh
       rw [toldB_some,decide_eq_true_eq] at hh
       refine Classical.byContradiction (fun hn=>?_)
       have hf:toldB T (p.first+size)=false:=by
        cases hx:toldB T (p.first+size) with
        | false=>rfl
        | true=>exact absurd hx hn
       obtain ⟨b1,-,-⟩:=h.bounds h1 h2 (List.mem_of_getElem? hp)
       exact s5 p.first b1 hf (by omega) p (List.mem_of_getElem? hp) (Int.le_refl _)
   . simp only [Option.some.injEq] at ht
     subst ht
     have hn:nextS r=r.next:=by unfold nextS;rw [if_pos hi]
     have hlen:0 < r.ps.length:=List.length_pos_iff.2 h0
     have htold:=(h.ins 0 _ (List.getElem?_eq_getElem hlen)).1 hi
     obtain ⟨t,rfl⟩:∃ t,T=some t:=by
      cases hT2:T with
      | none=>rw [hT2] at htold;cases htold
      | some t=>exact ⟨t,rfl⟩
     have hnx:=h.nxt hi t rfl
     have htl:=hT t rfl
     rw [hn] at hlt
     obtain ⟨d1,d2⟩:=down_le (t - size) slide h1
     obtain ⟨d3,d4⟩:=down_le (lt - size) slide h1
     have hdv:=down_dvd (t - size) slide
     have hdv2:=down_dvd (lt - size) slide
     have hm:=down_mono (t - size) (lt - size) slide h1 (by omega)
     rw [hnx] at hlt ⊢
     by_cases heq:down (t - size) slide=down (lt - size) slide
     . rw [heq]
     . have:=mul_gap _ _ slide h1 hdv hdv2 (by omega)
       omega
end Go.Proofs.YtcfngdnmpogaoaaGreat
namespace Go.Proofs.YtcfngdnmpogaoaaGreat
open Go.RowKit
def inPanes (ps:List Pane) (s:Int):List Pane:=ps.filter (fun p=>decide (p.first<=s) && decide (s<=p.last))
structure Slid3 (size slide:Int) (T:Option Int) (lt:Int) (ps:List Pane) (vs:List (Int × List Pane)):Prop where
 order:vs.Pairwise (fun a b=>a.1 < b.1)
 sound:∀ x ∈ vs,slide ∣ x.1/\toldB T (x.1+size)=false/\x.1+size<=lt/\(∃ p ∈ ps,p.first<=x.1/\x.1<=p.last)/\x.2=inPanes ps x.1
 full:∀ s,slide ∣ s->toldB T (s+size)=false->s+size<=lt->(∃ p ∈ ps,p.first<=s/\s<=p.last)->∃ x ∈ vs,x.1=s
theorem slideF_spec (size slide lt:Int) (h1:1<=slide) (h2:slide<=size):∀ (n:Nat) (r:RunS) (T:Option Int) (ws:List (Int × List Pane)),RunVirt size slide T r->leftS lt r < n->(∀ t,T=some t->t<=lt) ->
 ∃ vs,(slideF size slide lt n r ws).2=ws++vs/\Slid3 size slide T lt r.ps vs/\RunVirt size slide (some lt) (slideF size slide lt n r ws).1/\(slideF size slide lt n r ws).1.ps=r.ps.filter (fun p=>decide (lt < p.last+size))/\(slideF size slide lt n r ws).1.key=r.key
 | 0,r,T,ws,_,hf,_=>by omega
 | n+1,r,T,ws,h,hf,hT=>by
   rw [slideF]
   by_cases hs:r.ps=[]\/lt < nextS r+size
   . rw [if_pos hs]
     obtain ⟨a1,a2,a3⟩:=h.stop h1 h2 hT hs
     refine ⟨[],by simp,⟨List.Pairwise.nil,fun x hx=>(by cases hx),fun s hd ht hl hp=>?_⟩,a1,?_,rfl⟩
     . obtain ⟨p,hp,hf,-⟩:=hp
       exact absurd hf (a3 s hd ht hl p hp)
     . exact (List.filter_eq_self.2 (fun p hp=>decide_eq_true (a2 p hp))).symm
   . rw [if_neg hs]
     have h0:r.ps ≠ []:=fun e=>hs (.inl e)
     have hle:nextS r+size<=lt:=Int.le_of_not_gt (fun e=>hs (.inr e))
     obtain ⟨s1,s2,s3,s4,s5,s6⟩:=h.start h1 h2 h0
     obtain ⟨v1,v2,v3⟩:=h.step h1 h2 h0
     have hdec:=stepR_next slide lt size r h0 h1 (by omega) hle
     obtain ⟨vs,e1,e2,e3,e4,e5⟩:=slideF_spec size slide lt h1 h2 n (stepR slide r) (some (nextS r+size)) (ws++[(nextS r,(entR r).ps.take (entR r).inside)]) v1 (by omega) (fun t ht=>by simp only [Option.some.injEq] at ht;omega)
     generalize hS:nextS r=S at *
     have hmem:∀ p,p ∈ (stepR slide r).ps ↔ p ∈ r.ps/\S < p.last:=fun p=>by rw [v2,List.mem_filter];simp
     have hin:∀ s,S < s->inPanes (stepR slide r).ps s=inPanes r.ps s:=fun s hss=>by
      unfold inPanes
      rw [v2,List.filter_filter]
      refine List.filter_congr (fun p hp=>?_)
      by_cases hl:s<=p.last
      . have:S < p.last:=by omega
        simp [hl,this]
      . simp [hl]
     refine ⟨(S,(entR r).ps.take (entR r).inside) :: vs,by rw [e1];simp,⟨List.pairwise_cons.2 ⟨fun y hy=>?_,e2.order⟩,fun y hy=>?_,fun s hd ht hl hp=>?_⟩,e3,?_,e5⟩
     . obtain ⟨-,y2,-,-⟩:=e2.sound y hy
       rw [toldB_some] at y2
       simp only [decide_eq_false_iff_not] at y2
       show S < y.1
       omega
     . rcases List.mem_cons.1 hy with rfl | hy
       . refine ⟨s1,s3,hle,?_,v3⟩
         obtain ⟨p,hp,hpf⟩:=s6
         exact ⟨p,hp,hpf,s2 p hp⟩
       . obtain ⟨y1,y2,y3,⟨p,hp,hpf,hpl⟩,y5⟩:=e2.sound y hy
         rw [toldB_some] at y2
         simp only [decide_eq_false_iff_not] at y2
         have hSy:S < y.1:=by omega
         refine ⟨y1,?_,y3,⟨p,((hmem p).1 hp).1,hpf,hpl⟩,by rw [y5,hin _ hSy]⟩
         cases hTT:T with
         | none=>rfl
         | some t=>
           rw [hTT,toldB_some] at s3
           simp only [decide_eq_false_iff_not] at s3
           rw [toldB_some];exact decide_eq_false (by omega)
     . obtain ⟨p,hp,hpf,hpl⟩:=hp
       rcases Int.lt_trichotomy s S with hlt | rfl | hgt
       . exact absurd hpf (s5 s hd ht hlt p hp)
       . exact ⟨_,List.mem_cons_self ..,rfl⟩
       . obtain ⟨x,hx,hxs⟩:=e2.full s hd (by rw [toldB_some];exact decide_eq_false (by omega)) hl ⟨p,(hmem p).2 ⟨hp,by omega⟩,hpf,hpl⟩
         exact ⟨x,List.mem_cons_of_mem _ hx,hxs⟩
     . rw [e4,v2,List.filter_filter]
       refine List.filter_congr (fun p hp=>?_)
       by_cases hl:lt < p.last+size
       . have:S < p.last:=by omega
         simp [hl,this]
       . simp [hl]
end Go.Proofs.YtcfngdnmpogaoaaGreat
namespace Go.Proofs.YtcfngdnmpogaoaaGreat
open Go.RowKit
def rTest (m:Int × Bool) (s:RSrc):Bool:=s.opened && (!s.broken && (s.reached && (!m.2 || decide (s.reach < m.1))))
def leastRStep (m:Int × Bool) (s:RSrc):Int × Bool:=if rTest m s then (s.reach,true) else m
def leastR (l:List RSrc):Int × Bool:=l.foldl leastRStep (0,false)
theorem leastR_take (l:List RSrc) (n:Nat) (s:RSrc) (h:l[n]?=some s):leastR (l.take (n+1))=leastRStep (leastR (l.take n)) s:=by
 have hn:n < l.length:=(List.getElem?_eq_some_iff.1 h).1
 have he:l[n]=s:=(List.getElem?_eq_some_iff.1 h).2
 rw [List.take_succ_eq_append_getElem hn,leastR,List.foldl_append,he];rfl
def winN (size slide t:Int):Nat:=((down t slide+size - t+slide - 1) / slide).toNat
def startAt (slide t:Int) (j:Nat):Int:=down t slide - (j:Int)*slide
def finB (size was line:Int) (had:Bool) (s:Int):Bool:=decide (s+size<=line) && (!had || decide (was < s+size))
def evFin (size slide was line:Int) (had:Bool) (E:List Ev) (e:Ev) (n:Nat) (ws:List Win):List Win:=
 (List.range n).foldl (fun ws j=>if finB size was line had (startAt slide e.t j) then placeF e.key (startAt slide e.t j) (winF e.key (startAt slide e.t j) size E) ws else ws) ws
theorem evFin_succ (size slide was line:Int) (had:Bool) (E:List Ev) (e:Ev) (n:Nat) (ws:List Win) :
 evFin size slide was line had E e (n+1) ws=if finB size was line had (startAt slide e.t n) then placeF e.key (startAt slide e.t n) (winF e.key (startAt slide e.t n) size E) (evFin size slide was line had E e n ws) else evFin size slide was line had E e n ws:=by
 unfold evFin;rw [List.range_succ,List.foldl_append];rfl
def finAll (size slide was line:Int) (had:Bool) (E:List Ev) (es:List Ev):List Win:=es.foldl (fun ws e=>evFin size slide was line had E e (winN size slide e.t) ws) []
theorem finAll_take (size slide was line:Int) (had:Bool) (E:List Ev) (es:List Ev) (n:Nat) (e:Ev) (h:es[n]?=some e):finAll size slide was line had E (es.take (n+1))=evFin size slide was line had E e (winN size slide e.t) (finAll size slide was line had E (es.take n)):=by
 have hn:n < es.length:=(List.getElem?_eq_some_iff.1 h).1
 have he:es[n]=e:=(List.getElem?_eq_some_iff.1 h).2
 rw [List.take_succ_eq_append_getElem hn,finAll,List.foldl_append,he];rfl
theorem place_len (key:ByteArray) (s:Int) (x:Win) (ws:List Win):(placeF key s x ws).length<=ws.length+1:=by
 unfold placeF
 split
 . omega
 . rw [List.length_append,List.length_cons,List.length_take,List.length_drop];have:=atW_le key s ws;omega
theorem evFin_len (size slide was line:Int) (had:Bool) (E:List Ev) (e:Ev) (n:Nat) (ws:List Win):(evFin size slide was line had E e n ws).length<=ws.length+n:=by
 induction n with
 | zero=>exact Nat.le_refl _
 | succ n ih=>
   rw [evFin_succ]
   split
   . have:=place_len e.key (startAt slide e.t n) (winF e.key (startAt slide e.t n) size E) (evFin size slide was line had E e n ws);omega
   . omega
theorem winN_le (size slide t:Int) (h1:1<=slide) (h2:size<=4096*slide):winN size slide t<=4097:=by
 unfold winN
 obtain ⟨d1,d2⟩:=down_le t slide h1
 have:(down t slide+size - t+slide - 1) / slide<=(4097*slide - 1) / slide:=Int.ediv_le_ediv (by omega) (by omega)
 have h3:(4097*slide - 1) / slide < 4097:=Int.ediv_lt_of_lt_mul (by omega) (by omega)
 omega
theorem finAll_len (size slide was line:Int) (had:Bool) (E es:List Ev) (h1:1<=slide) (h2:size<=4096*slide):(finAll size slide was line had E es).length<=4097*es.length:=by
 induction es using snoc_ind with
 | nil=>simp [finAll]
 | snoc es e ih=>
   have e1:finAll size slide was line had E (es++[e])=evFin size slide was line had E e (winN size slide e.t) (finAll size slide was line had E es):=by
    unfold finAll;rw [List.foldl_append];rfl
   rw [e1,List.length_append,List.length_cons,List.length_nil]
   have:=evFin_len size slide was line had E e (winN size slide e.t) (finAll size slide was line had E es)
   have:=winN_le size slide e.t h1 h2
   omega
theorem winN_iff (size slide t:Int) (h1:1<=slide) (j:Nat):startAt slide t j+size > t ↔ j < winN size slide t:=by
 unfold startAt winN
 have hq:=Int.mul_ediv_add_emod (down t slide+size - t+slide - 1) slide
 have h3:=Int.emod_nonneg (down t slide+size - t+slide - 1) (show slide ≠ 0 by omega)
 have h4:=Int.emod_lt_of_pos (down t slide+size - t+slide - 1) (show 0 < slide by omega)
 generalize (down t slide+size - t+slide - 1) / slide=q at *
 generalize (down t slide+size - t+slide - 1) % slide=m at *
 constructor
 . intro h
   have:(j:Int) < q:=by
    refine Int.lt_of_not_ge (fun hge=>?_)
    have:=Int.mul_le_mul_of_nonneg_right hge (show 0<=slide by omega)
    rw [Int.mul_comm q slide] at this
    omega
   omega
 . intro h
   have:(j:Int)+1<=q:=by omega
   have:=Int.mul_le_mul_of_nonneg_right this (show 0<=slide by omega)
   rw [Int.add_mul,Int.one_mul,Int.mul_comm q slide] at this
   omega
theorem startAt_succ (slide t:Int) (j:Nat):startAt slide t j - slide=startAt slide t (j+1):=by
 unfold startAt
 rw [Int.natCast_add,Int.add_mul]
 show _=down t slide - ((j:Int)*slide+1*slide)
 omega
theorem startAt_bound (size slide t:Int) (h1:1<=slide) (hs:slide<=size) (hz:size<=1099511627776) (h2:-2305843009213693952<=t) (h3:t<=2305843009213693952) (j:Nat) (hj:j<=winN size slide t):-2305845208236949504<=startAt slide t j/\startAt slide t j<=2305843009213693952:=by
 obtain ⟨d1,d2⟩:=down_le t slide h1
 cases j with
 | zero=>unfold startAt;simp;omega
 | succ j=>
   have:=(winN_iff size slide t h1 j).2 (by omega)
   have e:=startAt_succ slide t j
   have:startAt slide t j<=down t slide:=by
    unfold startAt
    have:0<=(j:Int)*slide:=Int.mul_nonneg (by omega) (by omega)
    omega
   omega
end Go.Proofs.YtcfngdnmpogaoaaGreat
namespace Go.Proofs.YtcfngdnmpogaoaaGreat
open Go.RowKit
variable {E:List Ev} {P:ByteArray->Int->Prop} {size:Int} {ws:List Win}
theorem bl_irrefl (l:List UInt8):Op.bytesLess l l=false:=by
 induction l with
 | nil=>rfl
 | cons a l ih=>simp [Op.bytesLess,ih]
theorem bl_trans:∀ (a b c:List UInt8),Op.bytesLess a b=true->Op.bytesLess b c=true->Op.bytesLess a c=true
 | _,_,[],_,h2=>by cases ‹List UInt8› <;> simp [Op.bytesLess] at h2
 | [],_,_ :: _,_,_=>rfl
 | a :: x,[],c :: z,h1,_=>by simp [Op.bytesLess] at h1
 | a :: x,b :: y,c :: z,h1,h2=>by
   simp only [Op.bytesLess,Bool.or_eq_true,decide_eq_true_eq,Bool.and_eq_true,beq_iff_eq] at h1 h2 ⊢
   rcases h1 with h1 | ⟨rfl,h1⟩
   . rcases h2 with h2 | ⟨rfl,h2⟩
     . exact .inl (UInt8.lt_trans h1 h2)
     . exact .inl h1
   . rcases h2 with h2 | ⟨rfl,h2⟩
     . exact .inl h2
     . exact .inr ⟨rfl,bl_trans x y z h1 h2⟩
theorem bl_total:∀ (a b:List UInt8),Op.bytesLess a b=false->Op.bytesLess b a=false->a=b
 | [],[],_,_=>rfl
 | [],_ :: _,h1,_=>by simp [Op.bytesLess] at h1
 | _ :: _,[],_,h2=>by simp [Op.bytesLess] at h2
 | a :: x,b :: y,h1,h2=>by
   simp only [Op.bytesLess,Bool.or_eq_false_iff,decide_eq_false_iff_not,Bool.and_eq_false_iff,beq_eq_false_iff_ne] at h1 h2
   have hab:a=b:=by
    refine Classical.byContradiction (fun hne=>?_)
    rcases UInt8.lt_or_lt_of_ne hne with h | h
    . exact h1.1 h
    . exact h2.1 h
   subst hab
   have e1:Op.bytesLess x y=false:=by rcases h1.2 with h | h;exact absurd rfl h;exact h
   have e2:Op.bytesLess y x=false:=by rcases h2.2 with h | h;exact absurd rfl h;exact h
   rw [bl_total x y e1 e2]
def ltW (x y:Win):Prop:=befW y.key y.start x=true
theorem ltW_iff (x y:Win):ltW x y ↔ x.start < y.start\/x.start=y.start/\Op.bytesLess x.key.toList y.key.toList=true:=by
 unfold ltW befW
 simp only [Bool.or_eq_true,decide_eq_true_eq,Bool.and_eq_true]
theorem ltW_trans {x y z:Win} (h1:ltW x y) (h2:ltW y z):ltW x z:=by
 rw [ltW_iff] at *
 rcases h1 with h1 | ⟨h1,k1⟩
 . rcases h2 with h2 | ⟨h2,_⟩
   . exact .inl (by omega)
   . exact .inl (by omega)
 . rcases h2 with h2 | ⟨h2,k2⟩
   . exact .inl (by omega)
   . exact .inr ⟨by omega,bl_trans _ _ _ k1 k2⟩
theorem ltW_irrefl (x:Win):¬ ltW x x:=fun h=>by
 rw [ltW_iff] at h
 rcases h with h | ⟨_,h⟩
 . omega
 . rw [bl_irrefl] at h;cases h
theorem toList_inj {a b:ByteArray} (h:a.toList=b.toList):a=b:=by
 have:=(keyEq_iff a b).1 (by unfold keyEq;rw [h];simp)
 exact this
theorem ltW_total {x y:Win} (h1:¬ ltW x y) (h2:¬ ltW y x):x.start=y.start/\x.key=y.key:=by
 rw [ltW_iff] at h1 h2
 have hs:x.start=y.start:=by
  rcases Int.lt_trichotomy x.start y.start with h | h | h
  . exact absurd (.inl h) h1
  . exact h
  . exact absurd (.inl h) h2
 refine ⟨hs,toList_inj (bl_total _ _ ?_ ?_)⟩
 . cases hb:Op.bytesLess x.key.toList y.key.toList with
   | false=>rfl
   | true=>exact absurd (.inr ⟨hs,hb⟩) h1
 . cases hb:Op.bytesLess y.key.toList x.key.toList with
   | false=>rfl
   | true=>exact absurd (.inr ⟨hs.symm,hb⟩) h2
theorem place_spec (key:ByteArray) (s:Int) (x:Win) (ws:List Win) (hp:ws.Pairwise ltW) (hk:x.key=key) (hs:x.start=s) (hu:∀ y ∈ ws,y.key=key->y.start=s->y=x):(placeF key s x ws).Pairwise ltW/\∀ y,y ∈ placeF key s x ws ↔ y ∈ ws\/y=x:=by
 subst hk hs
 unfold placeF
 obtain ⟨a1,a2⟩:=atW_spec x.key x.start ws
 have a3:=atW_le x.key x.start ws
 generalize hn:atW x.key x.start ws=n at *
 cases hi:isAt x.key x.start ws with
 | true=>
   rw [if_pos rfl]
   refine ⟨hp,fun y=>⟨.inl,fun h=>?_⟩⟩
   rcases h with h | rfl
   . exact h
   . unfold isAt at hi
     rw [hn] at hi
     cases hw:ws[n]? with
     | none=>rw [hw] at hi;cases hi
     | some z=>
       rw [hw] at hi
       have hz:z ∈ ws:=List.mem_of_getElem? hw
       unfold sameW at hi
       simp only [Bool.and_eq_true,decide_eq_true_eq,keyEq_iff] at hi
       rw [<- hu z hz hi.2 hi.1];exact hz
 | false=>
   rw [if_neg (by simp)]
   have hsplit:ws.take n++ws.drop n=ws:=List.take_append_drop n ws
   have hpp:=hp
   rw [<- hsplit,List.pairwise_append] at hpp
   obtain ⟨p1,p2,p3⟩:=hpp
   have hbef:∀ y ∈ ws.take n,ltW y x:=fun y hy=>by
    obtain ⟨i,hi2,rfl⟩:=List.mem_iff_getElem.1 hy
    rw [List.length_take] at hi2
    rw [List.getElem_take]
    exact a1 i _ (by omega) (List.getElem?_eq_getElem (by omega))
   have haft:∀ y ∈ ws.drop n,ltW x y:=fun y hy=>by
    by_cases hnl:n < ws.length
    . have h0:ws.drop n=ws[n] :: ws.drop (n+1):=List.drop_eq_getElem_cons hnl
      have hx0:ws[n]?=some ws[n]:=List.getElem?_eq_getElem hnl
      have hn1:¬ ltW ws[n] x:=fun h=>by have:=a2 _ hx0;unfold ltW at h;rw [this] at h;cases h
      have hfirst:ltW x ws[n]:=by
       refine Classical.byContradiction (fun hc=>?_)
       obtain ⟨e1,e2⟩:=ltW_total hn1 hc
       unfold isAt at hi
       rw [hn,hx0] at hi
       unfold sameW at hi
       simp only [Bool.and_eq_false_iff,decide_eq_false_iff_not,keyEq_false] at hi
       rcases hi with hi | hi
       . exact hi e1
       . exact hi e2
      rw [h0] at hy p2
      rcases List.mem_cons.1 hy with rfl | hy
      . exact hfirst
      . exact ltW_trans hfirst ((List.pairwise_cons.1 p2).1 y hy)
    . rw [List.drop_eq_nil_of_le (by omega)] at hy;cases hy
   refine ⟨List.pairwise_append.2 ⟨p1,List.pairwise_cons.2 ⟨haft,p2⟩,fun a ha b hb=>?_⟩,fun y=>?_⟩
   . rcases List.mem_cons.1 hb with rfl | hb
     . exact hbef a ha
     . exact p3 a ha b hb
   . rw [List.mem_append,List.mem_cons]
     have hm:y ∈ ws ↔ y ∈ ws.take n\/y ∈ ws.drop n:=by rw [<- List.mem_append,hsplit]
     rw [hm]
     constructor
     . rintro (h | h | h)
       . exact .inl (.inl h)
       . exact .inr h
       . exact .inl (.inr h)
     . rintro ((h | h) | h)
       . exact .inl h
       . exact .inr (.inr h)
       . exact .inr (.inl h)
theorem winF_key (key:ByteArray) (s size:Int) (E:List Ev):(winF key s size E).key=key/\(winF key s size E).start=s:=by
 induction E using snoc_ind with
 | nil=>exact ⟨rfl,rfl⟩
 | snoc E e ih=>
   rw [winF_snoc]
   unfold winStep
   split
   . exact ih
   . exact ih
structure WinSet (size:Int) (E:List Ev) (P:ByteArray->Int->Prop) (ws:List Win):Prop where
 order:ws.Pairwise ltW
 mem:∀ x,x ∈ ws ↔ ∃ key s,P key s/\x=winF key s size E
theorem WinSet.place (h:WinSet size E P ws) (key:ByteArray) (s:Int):WinSet size E (fun k t=>P k t\/k=key/\t=s) (placeF key s (winF key s size E) ws):=by
 obtain ⟨k1,k2⟩:=winF_key key s size E
 obtain ⟨p1,p2⟩:=place_spec key s (winF key s size E) ws h.order k1 k2 (fun y hy h1 h2=>by
  obtain ⟨k,t,_,rfl⟩:=(h.mem y).1 hy
  obtain ⟨e1,e2⟩:=winF_key k t size E
  rw [e1] at h1;rw [e2] at h2
  rw [h1,h2])
 refine ⟨p1,fun x=>?_⟩
 rw [p2,h.mem]
 constructor
 . rintro (⟨k,t,hP,rfl⟩ | rfl)
   . exact ⟨k,t,.inl hP,rfl⟩
   . exact ⟨key,s,.inr ⟨rfl,rfl⟩,rfl⟩
 . rintro ⟨k,t,hP | ⟨rfl,rfl⟩,rfl⟩
   . exact .inl ⟨k,t,hP,rfl⟩
   . exact .inr rfl
theorem WinSet.congr {Q:ByteArray->Int->Prop} (h:WinSet size E P ws) (hPQ:∀ k s,P k s ↔ Q k s):WinSet size E Q ws:=⟨h.order,fun x=>by
 rw [h.mem]
 constructor
 . rintro ⟨k,s,hP,rfl⟩;exact ⟨k,s,(hPQ k s).1 hP,rfl⟩
 . rintro ⟨k,s,hP,rfl⟩;exact ⟨k,s,(hPQ k s).2 hP,rfl⟩⟩
theorem WinSet.uniq {vs:List Win} (h:WinSet size E P ws) (h':WinSet size E P vs):ws=vs:=by
 have key:∀ (ws vs:List Win),ws.Pairwise ltW->vs.Pairwise ltW->(∀ x,x ∈ ws ↔ x ∈ vs)->ws=vs:=by
  intro ws
  induction ws with
  | nil=>
    intro vs _ _ hm
    cases vs with
    | nil=>rfl
    | cons v vs=>have:=(hm v).2 (List.mem_cons_self ..);cases this
  | cons a ws ih=>
    intro vs h1 h2 hm
    cases vs with
    | nil=>have:=(hm a).1 (List.mem_cons_self ..);cases this
    | cons v vs=>
      obtain ⟨a1,a2⟩:=List.pairwise_cons.1 h1
      obtain ⟨b1,b2⟩:=List.pairwise_cons.1 h2
      have hav:a=v:=by
       have ha:=(hm a).1 (List.mem_cons_self ..)
       have hv:=(hm v).2 (List.mem_cons_self ..)
       rcases List.mem_cons.1 ha with h | h
       . exact h
       . rcases List.mem_cons.1 hv with h3 | h3
         . exact h3.symm
         . exact absurd (ltW_trans (a1 v h3) (b1 a h)) (ltW_irrefl a)
      subst hav
      rw [ih vs a2 b2 (fun x=>?_)]
      constructor
      . intro hx
        rcases List.mem_cons.1 ((hm x).1 (List.mem_cons_of_mem _ hx)) with h3 | h3
        . subst h3;exact absurd (a1 x hx) (ltW_irrefl x)
        . exact h3
      . intro hx
        rcases List.mem_cons.1 ((hm x).2 (List.mem_cons_of_mem _ hx)) with h3 | h3
        . subst h3;exact absurd (b1 x hx) (ltW_irrefl x)
        . exact h3
 exact key ws vs h.order h'.order (fun x=>by rw [h.mem,h'.mem])
theorem evFin_set {slide was line:Int} {had:Bool} (h:WinSet size E P ws) (e:Ev) (n:Nat):WinSet size E (fun k s=>P k s\/k=e.key/\∃ j,j < n/\s=startAt slide e.t j/\finB size was line had s=true) (evFin size slide was line had E e n ws):=by
 induction n with
 | zero=>exact h.congr (fun k s=>⟨.inl,fun hh=>hh.elim id (fun ⟨_,j,hj,_⟩=>by omega)⟩)
 | succ n ih=>
   rw [evFin_succ]
   cases hf:finB size was line had (startAt slide e.t n) with
   | true=>
     rw [if_pos rfl]
     refine (ih.place e.key (startAt slide e.t n)).congr (fun k s=>?_)
     constructor
     . rintro ((hp | ⟨rfl,j,hj,rfl,hb⟩) | ⟨rfl,rfl⟩)
       . exact .inl hp
       . exact .inr ⟨rfl,j,by omega,rfl,hb⟩
       . exact .inr ⟨rfl,n,by omega,rfl,hf⟩
     . rintro (hp | ⟨rfl,j,hj,rfl,hb⟩)
       . exact .inl (.inl hp)
       . by_cases hjn:j=n
         . subst hjn;exact .inr ⟨rfl,rfl⟩
         . exact .inl (.inr ⟨rfl,j,by omega,rfl,hb⟩)
   | false=>
     rw [if_neg (by simp)]
     refine ih.congr (fun k s=>?_)
     constructor
     . rintro (hp | ⟨rfl,j,hj,rfl,hb⟩)
       . exact .inl hp
       . exact .inr ⟨rfl,j,by omega,rfl,hb⟩
     . rintro (hp | ⟨rfl,j,hj,rfl,hb⟩)
       . exact .inl hp
       . by_cases hjn:j=n
         . subst hjn;rw [hf] at hb;cases hb
         . exact .inr ⟨rfl,j,by omega,rfl,hb⟩
theorem finAll_set (size slide was line:Int) (had:Bool) (E es:List Ev):WinSet size E (fun k s=>∃ e ∈ es,k=e.key/\∃ j,j < winN size slide e.t/\s=startAt slide e.t j/\finB size was line had s=true) (finAll size slide was line had E es):=by
 induction es using snoc_ind with
 | nil=>exact ⟨List.Pairwise.nil,fun x=>by simp [finAll]⟩
 | snoc es e ih=>
   have e1:finAll size slide was line had E (es++[e])=evFin size slide was line had E e (winN size slide e.t) (finAll size slide was line had E es):=by
    unfold finAll;rw [List.foldl_append];rfl
   rw [e1]
   refine (evFin_set ih e (winN size slide e.t)).congr (fun k s=>?_)
   constructor
   . rintro (⟨x,hx,h⟩ | h)
     . exact ⟨x,List.mem_append_left _ hx,h⟩
     . exact ⟨e,List.mem_append_right _ (List.mem_singleton.2 rfl),h⟩
   . rintro ⟨x,hx,h⟩
     rcases List.mem_append.1 hx with hx | hx
     . exact .inl ⟨x,hx,h⟩
     . rw [List.mem_singleton.1 hx] at h;exact .inr h
end Go.Proofs.YtcfngdnmpogaoaaGreat
namespace Go.Proofs.YtcfngdnmpogaoaaGreat
open Go.RowKit
variable {E:List Ev} {size:Int}
theorem start_iff (size slide t s:Int) (h1:1<=slide):(∃ j,j < winN size slide t/\s=startAt slide t j) ↔ slide ∣ s/\s<=t/\t < s+size:=by
 obtain ⟨d1,d2⟩:=down_le t slide h1
 constructor
 . rintro ⟨j,hj,rfl⟩
   have hw:=(winN_iff size slide t h1 j).2 hj
   refine ⟨?_,?_,by omega⟩
   . unfold startAt
     exact Int.dvd_sub (down_dvd t slide) ⟨(j:Int),Int.mul_comm _ _⟩
   . unfold startAt
     have:0<=(j:Int)*slide:=Int.mul_nonneg (by omega) (by omega)
     omega
 . rintro ⟨hd,hs,ht⟩
   have hle:s<=down t slide:=by
    refine Int.le_of_not_gt (fun hgt=>?_)
    have:=mul_gap (down t slide) s slide h1 (down_dvd t slide) hd (by omega)
    omega
   obtain ⟨q,hq⟩:=Int.dvd_sub (down_dvd t slide) hd
   have hq0:0<=q:=by
    refine Int.le_of_not_gt (fun hgt=>?_)
    have:=Int.mul_lt_mul_of_pos_left hgt (show 0 < slide by omega)
    rw [Int.mul_zero] at this
    omega
   have hst:s=startAt slide t q.toNat:=by
    unfold startAt
    rw [Int.toNat_of_nonneg hq0,Int.mul_comm];omega
   refine ⟨q.toNat,?_,hst⟩
   rw [<- winN_iff size slide t h1 q.toNat,<- hst]
   omega
def winP (size slide:Int) (T:Option Int) (lt:Int) (li:Bool) (E:List Ev) (key:ByteArray) (s:Int):Prop:=
 li=true/\(∃ e ∈ E,e.key=key/\slide ∣ s/\s<=e.t/\e.t < s+size)/\s+size<=lt/\toldB T (s+size)=false
def DoneOk (size slide:Int) (T:Option Int) (lt:Int) (li:Bool) (E:List Ev) (ds:List Win):Prop:=WinSet size E (winP size slide T lt li E) ds
theorem DoneOk.move {slide:Int} {T:Option Int} {lt t:Int} {li:Bool} {ds:List Win} (h:DoneOk size slide T lt li E ds) (h1:1<=slide) (hm:li=true->lt<=t) (hT:∀ x,T=some x->li=true/\x<=lt):DoneOk size slide T t true E (ds++finAll size slide lt t li E E):=by
 have hf:=finAll_set size slide lt t li E E
 have hfB:∀ s,finB size lt t li s=true ↔ s+size<=t/\(li=true->lt < s+size):=fun s=>by
  unfold finB
  cases li <;> simp
 refine ⟨List.pairwise_append.2 ⟨h.order,hf.order,fun a ha b hb=>?_⟩,fun x=>?_⟩
 . obtain ⟨k,s,⟨hl,-,hs,-⟩,rfl⟩:=(h.mem a).1 ha
   obtain ⟨k',s',⟨e,he,-,j,hj,-,hb'⟩,rfl⟩:=(hf.mem b).1 hb
   rw [hfB] at hb'
   have:=hb'.2 hl
   rw [ltW_iff,(winF_key k s size E).2,(winF_key k' s' size E).2]
   exact .inl (by omega)
 . rw [List.mem_append,h.mem,hf.mem]
   constructor
   . rintro (⟨k,s,⟨hl,he,hs,ht⟩,rfl⟩ | ⟨k,s,⟨e,he,rfl,j,hj,hs,hb⟩,rfl⟩)
     . exact ⟨k,s,⟨rfl,he,by have:=hm hl;omega,ht⟩,rfl⟩
     . rw [hfB] at hb
       obtain ⟨q1,q2,q3⟩:=(start_iff size slide e.t s h1).1 ⟨j,hj,hs⟩
       refine ⟨e.key,s,⟨rfl,⟨e,he,rfl,q1,q2,q3⟩,hb.1,?_⟩,rfl⟩
       cases hTT:T with
       | none=>rfl
       | some x=>
         obtain ⟨e1,e2⟩:=hT x hTT
         have:=hb.2 e1
         show decide (s+size<=x)=false
         exact decide_eq_false (by omega)
   . rintro ⟨k,s,⟨-,⟨e,he,rfl,q1,q2,q3⟩,hs,ht⟩,rfl⟩
     by_cases hold:li=true/\s+size<=lt
     . exact .inl ⟨e.key,s,⟨hold.1,⟨e,he,rfl,q1,q2,q3⟩,hold.2,ht⟩,rfl⟩
     . obtain ⟨j,hj,hsj⟩:=(start_iff size slide e.t s h1).2 ⟨q1,q2,q3⟩
       refine .inr ⟨e.key,s,⟨e,he,rfl,j,hj,hsj,?_⟩,rfl⟩
       rw [hfB]
       refine ⟨hs,fun hl=>?_⟩
       refine Int.lt_of_not_ge (fun hge=>hold ⟨hl,hge⟩)
theorem winF_out {key:ByteArray} {s:Int} {e:Ev} (h:s+size<=e.t):winF key s size (E++[e])=winF key s size E:=by
 rw [winF_snoc]
 unfold winStep
 have:inWin key s size e=false:=by
  unfold inWin
  have h2:decide (e.t<=s+size - 1)=false:=decide_eq_false (by omega)
  rw [h2];simp
 rw [this];rfl
theorem DoneOk.event {slide:Int} {T:Option Int} {lt:Int} {li:Bool} {ds:List Win} (h:DoneOk size slide T lt li E ds) (e:Ev) (he:li=true->lt<=e.t):DoneOk size slide T lt li (E++[e]) ds:=by
 refine ⟨h.order,fun x=>?_⟩
 rw [h.mem]
 constructor
 . rintro ⟨k,s,⟨hl,⟨a,ha,hh⟩,hs,ht⟩,rfl⟩
   exact ⟨k,s,⟨hl,⟨a,List.mem_append_left _ ha,hh⟩,hs,ht⟩,(winF_out (by have:=he hl;omega)).symm⟩
 . rintro ⟨k,s,⟨hl,⟨a,ha,hk,q1,q2,q3⟩,hs,ht⟩,rfl⟩
   have hel:=he hl
   rcases List.mem_append.1 ha with ha | ha
   . exact ⟨k,s,⟨hl,⟨a,ha,hk,q1,q2,q3⟩,hs,ht⟩,winF_out (by omega)⟩
   . rw [List.mem_singleton.1 ha] at q3
     omega
theorem DoneOk.take (size slide:Int) (lt:Int) (li:Bool) (E:List Ev):DoneOk size slide (some lt) lt li E []:=by
 refine ⟨List.Pairwise.nil,fun x=>⟨fun h=>(by cases h),fun hx=>?_⟩⟩
 obtain ⟨k,s,⟨_,_,hs,ht⟩,_⟩:=hx
 have h1:decide (s+size<=lt)=true:=decide_eq_true hs
 have ht:decide (s+size<=lt)=false:=ht
 rw [h1] at ht;cases ht
theorem DoneOk.void (size slide:Int) (T:Option Int) (lt:Int) (E:List Ev):DoneOk size slide T lt false E []:=by
 refine ⟨List.Pairwise.nil,fun x=>⟨fun h=>(by cases h),fun hx=>?_⟩⟩
 obtain ⟨k,s,⟨hl,_⟩,_⟩:=hx
 cases hl
end Go.Proofs.YtcfngdnmpogaoaaGreat
