import Derived.Test.YtcfngdnmpogaoaaGreatTkT26
import Derived.Test.YtcfngdnmpogaoaaGreatTkT02
import Derived.Test.YtcfngdnmpogaoaaGreatTkT25
namespace Go.Proofs.YtcfngdnmpogaoaaGreat
open Go.RowKit
def rTest (m:Int × Bool) (s:RSrc):Bool:=s.opened && (!s.broken && (s.reached && (!m.2 || decide (s.reach < m.1))))
def leastRStep (m:Int × Bool) (s:RSrc):Int × Bool:=if rTest m s then (s.reach,true) else m
def leastR (l:List RSrc):Int × Bool:=l.foldl leastRStep (0,false)
theorem leastR_take (l:List RSrc) (n:Nat) (s:RSrc) (h:l[n]?=some s):leastR (l.take (n+1))=leastRStep (leastR (l.take n)) s:=by
 have hn:n < l.length:=(List.getElem?_eq_some_iff.1 h).1
 have he:l[n]=s:=(List.getElem?_eq_some_iff.1 h).2
 rw [List.take_succ_eq_append_getElem hn,leastR,List.foldl_append,he];rfl
def winN (size slide t:Int):Nat:=((down t slide+size - t+slide - 1) / slide).toNat
def startAt (slide t:Int) (j:Nat):Int:=down t slide - (j:Int)*slide
def finB (size was line:Int) (had:Bool) (s:Int):Bool:=decide (s+size<=line) && (!had || decide (was < s+size))
def evFin (size slide was line:Int) (had:Bool) (E:List Ev) (e:Ev) (n:Nat) (ws:List Win):List Win:=
 (List.range n).foldl (fun ws j=>if finB size was line had (startAt slide e.t j) then placeF e.key (startAt slide e.t j) (winF e.key (startAt slide e.t j) size E) ws else ws) ws
theorem evFin_succ (size slide was line:Int) (had:Bool) (E:List Ev) (e:Ev) (n:Nat) (ws:List Win) :
 evFin size slide was line had E e (n+1) ws=if finB size was line had (startAt slide e.t n) then placeF e.key (startAt slide e.t n) (winF e.key (startAt slide e.t n) size E) (evFin size slide was line had E e n ws) else evFin size slide was line had E e n ws:=by
 unfold evFin;rw [List.range_succ,List.foldl_append];rfl
def finAll (size slide was line:Int) (had:Bool) (E:List Ev) (es:List Ev):List Win:=es.foldl (fun ws e=>evFin size slide was line had E e (winN size slide e.t) ws) []
theorem finAll_take (size slide was line:Int) (had:Bool) (E:List Ev) (es:List Ev) (n:Nat) (e:Ev) (h:es[n]?=some e):finAll size slide was line had E (es.take (n+1))=evFin size slide was line had E e (winN size slide e.t) (finAll size slide was line had E (es.take n)):=by
 have hn:n < es.length:=(List.getElem?_eq_some_iff.1 h).1
 have he:es[n]=e:=(List.getElem?_eq_some_iff.1 h).2
 rw [List.take_succ_eq_append_getElem hn,finAll,List.foldl_append,he];rfl
theorem place_len (key:ByteArray) (s:Int) (x:Win) (ws:List Win):(placeF key s x ws).length<=ws.length+1:=by
 unfold placeF
 split
 . omega
 . rw [List.length_append,List.length_cons,List.length_take,List.length_drop];have:=atW_le key s ws;omega
theorem evFin_len (size slide was line:Int) (had:Bool) (E:List Ev) (e:Ev) (n:Nat) (ws:List Win):(evFin size slide was line had E e n ws).length<=ws.length+n:=by
 induction n with
 | zero=>exact Nat.le_refl _
 | succ n ih=>
   rw [evFin_succ]
   split
   . have:=place_len e.key (startAt slide e.t n) (winF e.key (startAt slide e.t n) size E) (evFin size slide was line had E e n ws);omega
   . omega
theorem winN_le (size slide t:Int) (h1:1<=slide) (h2:size<=4096*slide):winN size slide t<=4097:=by
 unfold winN
 obtain ⟨d1,d2⟩:=down_le t slide h1
 have:(down t slide+size - t+slide - 1) / slide<=(4097*slide - 1) / slide:=Int.ediv_le_ediv (by omega) (by omega)
 have h3:(4097*slide - 1) / slide < 4097:=Int.ediv_lt_of_lt_mul (by omega) (by omega)
 omega
theorem finAll_len (size slide was line:Int) (had:Bool) (E es:List Ev) (h1:1<=slide) (h2:size<=4096*slide):(finAll size slide was line had E es).length<=4097*es.length:=by
 induction es using snoc_ind with
 | nil=>simp [finAll]
 | snoc es e ih=>
   have e1:finAll size slide was line had E (es++[e])=evFin size slide was line had E e (winN size slide e.t) (finAll size slide was line had E es):=by
    unfold finAll;rw [List.foldl_append];rfl
   rw [e1,List.length_append,List.length_cons,List.length_nil]
   have:=evFin_len size slide was line had E e (winN size slide e.t) (finAll size slide was line had E es)
   have:=winN_le size slide e.t h1 h2
   omega
theorem winN_iff (size slide t:Int) (h1:1<=slide) (j:Nat):startAt slide t j+size > t ↔ j < winN size slide t:=by
 unfold startAt winN
 have hq:=Int.mul_ediv_add_emod (down t slide+size - t+slide - 1) slide
 have h3:=Int.emod_nonneg (down t slide+size - t+slide - 1) (show slide ≠ 0 by omega)
 have h4:=Int.emod_lt_of_pos (down t slide+size - t+slide - 1) (show 0 < slide by omega)
 generalize (down t slide+size - t+slide - 1) / slide=q at *
 generalize (down t slide+size - t+slide - 1) % slide=m at *
 constructor
 . intro h
   have:(j:Int) < q:=by
    refine Int.lt_of_not_ge (fun hge=>?_)
    have:=Int.mul_le_mul_of_nonneg_right hge (show 0<=slide by omega)
    rw [Int.mul_comm q slide] at this
    omega
   omega
 . intro h
   have:(j:Int)+1<=q:=by omega
   have:=Int.mul_le_mul_of_nonneg_right this (show 0<=slide by omega)
   rw [Int.add_mul,Int.one_mul,Int.mul_comm q slide] at this
   omega
theorem startAt_succ (slide t:Int) (j:Nat):startAt slide t j - slide=startAt slide t (j+1):=by
 unfold startAt
 rw [Int.natCast_add,Int.add_mul]
 show _=down t slide - ((j:Int)*slide+1*slide)
 omega
theorem startAt_bound (size slide t:Int) (h1:1<=slide) (hs:slide<=size) (hz:size<=1099511627776) (h2:-2305843009213693952<=t) (h3:t<=2305843009213693952) (j:Nat) (hj:j<=winN size slide t):-2305845208236949504<=startAt slide t j/\startAt slide t j<=2305843009213693952:=by
 obtain ⟨d1,d2⟩:=down_le t slide h1
 cases j with
 | zero=>unfold startAt;simp;omega
 | succ j=>
   have:=(winN_iff size slide t h1 j).2 (by omega)
   have e:=startAt_succ slide t j
   have:startAt slide t j<=down t slide:=by
    unfold startAt
    have:0<=(j:Int)*slide:=Int.mul_nonneg (by omega) (by omega)
    omega
   omega
end Go.Proofs.YtcfngdnmpogaoaaGreat
namespace Go.Proofs.YtcfngdnmpogaoaaGreat
open Go.RowKit
variable {E:List Ev} {P:ByteArray->Int->Prop} {size:Int} {ws:List Win}
theorem bl_irrefl (l:List UInt8):Op.bytesLess l l=false:=by
 induction l with
 | nil=>rfl
 | cons a l ih=>simp [Op.bytesLess,ih]
theorem bl_trans:∀ (a b c:List UInt8),Op.bytesLess a b=true->Op.bytesLess b c=true->Op.bytesLess a c=true
 | _,_,[],_,h2=>by cases ‹List UInt8› <;> simp [Op.bytesLess] at h2
 | [],_,_ :: _,_,_=>rfl
 | a :: x,[],c :: z,h1,_=>by simp [Op.bytesLess] at h1
 | a :: x,b :: y,c :: z,h1,h2=>by
   simp only [Op.bytesLess,Bool.or_eq_true,decide_eq_true_eq,Bool.and_eq_true,beq_iff_eq] at h1 h2 ⊢
   rcases h1 with h1 | ⟨rfl,h1⟩
   . rcases h2 with h2 | ⟨rfl,h2⟩
     . exact .inl (UInt8.lt_trans h1 h2)
     . exact .inl h1
   . rcases h2 with h2 | ⟨rfl,h2⟩
     . exact .inl h2
     . exact .inr ⟨rfl,bl_trans x y z h1 h2⟩
theorem bl_total:∀ (a b:List UInt8),Op.bytesLess a b=false->Op.bytesLess b a=false->a=b
 | [],[],_,_=>rfl
 | [],_ :: _,h1,_=>by simp [Op.bytesLess] at h1
 | _ :: _,[],_,h2=>by simp [Op.bytesLess] at h2
 | a :: x,b :: y,h1,h2=>by
   simp only [Op.bytesLess,Bool.or_eq_false_iff,decide_eq_false_iff_not,Bool.and_eq_false_iff,beq_eq_false_iff_ne] at h1 h2
   have hab:a=b:=by
    refine Classical.byContradiction (fun hne=>?_)
    rcases UInt8.lt_or_lt_of_ne hne with h | h
    . exact h1.1 h
    . exact h2.1 h
   subst hab
   have e1:Op.bytesLess x y=false:=by rcases h1.2 with h | h;exact absurd rfl h;exact h
   have e2:Op.bytesLess y x=false:=by rcases h2.2 with h | h;exact absurd rfl h;exact h
   rw [bl_total x y e1 e2]
def ltW (x y:Win):Prop:=befW y.key y.start x=true
theorem ltW_iff (x y:Win):ltW x y ↔ x.start < y.start\/x.start=y.start/\Op.bytesLess x.key.toList y.key.toList=true:=by
 unfold ltW befW
 simp only [Bool.or_eq_true,decide_eq_true_eq,Bool.and_eq_true]
theorem ltW_trans {x y z:Win} (h1:ltW x y) (h2:ltW y z):ltW x z:=by
 rw [ltW_iff] at *
 rcases h1 with h1 | ⟨h1,k1⟩
 . rcases h2 with h2 | ⟨h2,_⟩
   . exact .inl (by omega)
   . exact .inl (by omega)
 . rcases h2 with h2 | ⟨h2,k2⟩
   . exact .inl (by omega)
   . exact .inr ⟨by omega,bl_trans _ _ _ k1 k2⟩
theorem ltW_irrefl (x:Win):¬ ltW x x:=fun h=>by
 rw [ltW_iff] at h
 rcases h with h | ⟨_,h⟩
 . omega
 . rw [bl_irrefl] at h;cases h
theorem toList_inj {a b:ByteArray} (h:a.toList=b.toList):a=b:=by
 have:=(keyEq_iff a b).1 (by unfold keyEq;rw [h];simp)
 exact this
theorem ltW_total {x y:Win} (h1:¬ ltW x y) (h2:¬ ltW y x):x.start=y.start/\x.key=y.key:=by
 rw [ltW_iff] at h1 h2
 have hs:x.start=y.start:=by
  rcases Int.lt_trichotomy x.start y.start with h | h | h
  . exact absurd (.inl h) h1
  . exact h
  . exact absurd (.inl h) h2
 refine ⟨hs,toList_inj (bl_total _ _ ?_ ?_)⟩
 . cases hb:Op.bytesLess x.key.toList y.key.toList with
   | false=>rfl
   | true=>exact absurd (.inr ⟨hs,hb⟩) h1
 . cases hb:Op.bytesLess y.key.toList x.key.toList with
   | false=>rfl
   | true=>exact absurd (.inr ⟨hs.symm,hb⟩) h2
theorem place_spec (key:ByteArray) (s:Int) (x:Win) (ws:List Win) (hp:ws.Pairwise ltW) (hk:x.key=key) (hs:x.start=s) (hu:∀ y ∈ ws,y.key=key->y.start=s->y=x):(placeF key s x ws).Pairwise ltW/\∀ y,y ∈ placeF key s x ws ↔ y ∈ ws\/y=x:=by
 subst hk hs
 unfold placeF
 obtain ⟨a1,a2⟩:=atW_spec x.key x.start ws
 have a3:=atW_le x.key x.start ws
 generalize hn:atW x.key x.start ws=n at *
 cases hi:isAt x.key x.start ws with
 | true=>
   rw [if_pos rfl]
   refine ⟨hp,fun y=>⟨.inl,fun h=>?_⟩⟩
   rcases h with h | rfl
   . exact h
   . unfold isAt at hi
     rw [hn] at hi
     cases hw:ws[n]? with
     | none=>rw [hw] at hi;cases hi
     | some z=>
       rw [hw] at hi
       have hz:z ∈ ws:=List.mem_of_getElem? hw
       unfold sameW at hi
       simp only [Bool.and_eq_true,decide_eq_true_eq,keyEq_iff] at hi
       rw [<- hu z hz hi.2 hi.1];exact hz
 | false=>
   rw [if_neg (by simp)]
   have hsplit:ws.take n++ws.drop n=ws:=List.take_append_drop n ws
   have hpp:=hp
   rw [<- hsplit,List.pairwise_append] at hpp
   obtain ⟨p1,p2,p3⟩:=hpp
   have hbef:∀ y ∈ ws.take n,ltW y x:=fun y hy=>by
    obtain ⟨i,hi2,rfl⟩:=List.mem_iff_getElem.1 hy
    rw [List.length_take] at hi2
    rw [List.getElem_take]
    exact a1 i _ (by omega) (List.getElem?_eq_getElem (by omega))
   have haft:∀ y ∈ ws.drop n,ltW x y:=fun y hy=>by
    by_cases hnl:n < ws.length
    . have h0:ws.drop n=ws[n] :: ws.drop (n+1):=List.drop_eq_getElem_cons hnl
      have hx0:ws[n]?=some ws[n]:=List.getElem?_eq_getElem hnl
      have hn1:¬ ltW ws[n] x:=fun h=>by have:=a2 _ hx0;unfold ltW at h;rw [this] at h;cases h
      have hfirst:ltW x ws[n]:=by
       refine Classical.byContradiction (fun hc=>?_)
       obtain ⟨e1,e2⟩:=ltW_total hn1 hc
       unfold isAt at hi
       rw [hn,hx0] at hi
       unfold sameW at hi
       simp only [Bool.and_eq_false_iff,decide_eq_false_iff_not,keyEq_false] at hi
       rcases hi with hi | hi
       . exact hi e1
       . exact hi e2
      rw [h0] at hy p2
      rcases List.mem_cons.1 hy with rfl | hy
      . exact hfirst
      . exact ltW_trans hfirst ((List.pairwise_cons.1 p2).1 y hy)
    . rw [List.drop_eq_nil_of_le (by omega)] at hy;cases hy
   refine ⟨List.pairwise_append.2 ⟨p1,List.pairwise_cons.2 ⟨haft,p2⟩,fun a ha b hb=>?_⟩,fun y=>?_⟩
   . rcases List.mem_cons.1 hb with rfl | hb
     . exact hbef a ha
     . exact p3 a ha b hb
   . rw [List.mem_append,List.mem_cons]
     have hm:y ∈ ws ↔ y ∈ ws.take n\/y ∈ ws.drop n:=by rw [<- List.mem_append,hsplit]
     rw [hm]
     constructor
     . rintro (h | h | h)
       . exact .inl (.inl h)
       . exact .inr h
       . exact .inl (.inr h)
     . rintro ((h | h) | h)
       . exact .inl h
       . exact .inr (.inr h)
       . exact .inr (.inl h)
theorem winF_key (key:ByteArray) (s size:Int) (E:List Ev):(winF key s size E).key=key/\(winF key s size E).start=s:=by
 induction E using snoc_ind with
 | nil=>exact ⟨rfl,rfl⟩
 | snoc E e ih=>
   rw [winF_snoc]
   unfold winStep
   split
   . exact ih
   . exact ih
structure WinSet (size:Int) (E:List Ev) (P:ByteArray->Int->Prop) (ws:List Win):Prop where
 order:ws.Pairwise ltW
 mem:∀ x,x ∈ ws ↔ ∃ key s,P key s/\x=winF key s size E
theorem WinSet.place (h:WinSet size E P ws) (key:ByteArray) (s:Int):WinSet size E (fun k t=>P k t\/k=key/\t=s) (placeF key s (winF key s size E) ws):=by
 obtain ⟨k1,k2⟩:=winF_key key s size E
 obtain ⟨p1,p2⟩:=place_spec key s (winF key s size E) ws h.order k1 k2 (fun y hy h1 h2=>by
  obtain ⟨k,t,_,rfl⟩:=(h.mem y).1 hy
  obtain ⟨e1,e2⟩:=winF_key k t size E
  rw [e1] at h1;rw [e2] at h2
  rw [h1,h2])
 refine ⟨p1,fun x=>?_⟩
 rw [p2,h.mem]
 constructor
 . rintro (⟨k,t,hP,rfl⟩ | rfl)
   . exact ⟨k,t,.inl hP,rfl⟩
   . exact ⟨key,s,.inr ⟨rfl,rfl⟩,rfl⟩
 . rintro ⟨k,t,hP | ⟨rfl,rfl⟩,rfl⟩
   . exact .inl ⟨k,t,hP,rfl⟩
   . exact .inr rfl
theorem WinSet.congr {Q:ByteArray->Int->Prop} (h:WinSet size E P ws) (hPQ:∀ k s,P k s ↔ Q k s):WinSet size E Q ws:=⟨h.order,fun x=>by
 rw [h.mem]
 constructor
 . rintro ⟨k,s,hP,rfl⟩;exact ⟨k,s,(hPQ k s).1 hP,rfl⟩
 . rintro ⟨k,s,hP,rfl⟩;exact ⟨k,s,(hPQ k s).2 hP,rfl⟩⟩
theorem WinSet.uniq {vs:List Win} (h:WinSet size E P ws) (h':WinSet size E P vs):ws=vs:=by
 have key:∀ (ws vs:List Win),ws.Pairwise ltW->vs.Pairwise ltW->(∀ x,x ∈ ws ↔ x ∈ vs)->ws=vs:=by
  intro ws
  induction ws with
  | nil=>
    intro vs _ _ hm
    cases vs with
    | nil=>rfl
    | cons v vs=>have:=(hm v).2 (List.mem_cons_self ..);cases this
  | cons a ws ih=>
    intro vs h1 h2 hm
    cases vs with
    | nil=>have:=(hm a).1 (List.mem_cons_self ..);cases this
    | cons v vs=>
      obtain ⟨a1,a2⟩:=List.pairwise_cons.1 h1
      obtain ⟨b1,b2⟩:=List.pairwise_cons.1 h2
      have hav:a=v:=by
       have ha:=(hm a).1 (List.mem_cons_self ..)
       have hv:=(hm v).2 (List.mem_cons_self ..)
       rcases List.mem_cons.1 ha with h | h
       . exact h
       . rcases List.mem_cons.1 hv with h3 | h3
         . exact h3.symm
         . exact absurd (ltW_trans (a1 v h3) (b1 a h)) (ltW_irrefl a)
      subst hav
      rw [ih vs a2 b2 (fun x=>?_)]
      constructor
      . intro hx
        rcases List.mem_cons.1 ((hm x).1 (List.mem_cons_of_mem _ hx)) with h3 | h3
        . subst h3;exact absurd (a1 x hx) (ltW_irrefl x)
        . exact h3
      . intro hx
        rcases List.mem_cons.1 ((hm x).2 (List.mem_cons_of_mem _ hx)) with h3 | h3
        . subst h3;exact absurd (b1 x hx) (ltW_irrefl x)
        . exact h3
 exact key ws vs h.order h'.order (fun x=>by rw [h.mem,h'.mem])
theorem evFin_set {slide was line:Int} {had:Bool} (h:WinSet size E P ws) (e:Ev) (n:Nat):WinSet size E (fun k s=>P k s\/k=e.key/\∃ j,j < n/\s=startAt slide e.t j/\finB size was line had s=true) (evFin size slide was line had E e n ws):=by
 induction n with
 | zero=>exact h.congr (fun k s=>⟨.inl,fun hh=>hh.elim id (fun ⟨_,j,hj,_⟩=>by omega)⟩)
 | succ n ih=>
   rw [evFin_succ]
   cases hf:finB size was line had (startAt slide e.t n) with
   | true=>
     rw [if_pos rfl]
     refine (ih.place e.key (startAt slide e.t n)).congr (fun k s=>?_)
     constructor
     . rintro ((hp | ⟨rfl,j,hj,rfl,hb⟩) | ⟨rfl,rfl⟩)
       . exact .inl hp
       . exact .inr ⟨rfl,j,by omega,rfl,hb⟩
       . exact .inr ⟨rfl,n,by omega,rfl,hf⟩
     . rintro (hp | ⟨rfl,j,hj,rfl,hb⟩)
       . exact .inl (.inl hp)
       . by_cases hjn:j=n
         . subst hjn;exact .inr ⟨rfl,rfl⟩
         . exact .inl (.inr ⟨rfl,j,by omega,rfl,hb⟩)
   | false=>
     rw [if_neg (by simp)]
     refine ih.congr (fun k s=>?_)
     constructor
     . rintro (hp | ⟨rfl,j,hj,rfl,hb⟩)
       . exact .inl hp
       . exact .inr ⟨rfl,j,by omega,rfl,hb⟩
     . rintro (hp | ⟨rfl,j,hj,rfl,hb⟩)
       . exact .inl hp
       . by_cases hjn:j=n
         . subst hjn;rw [hf] at hb;cases hb
         . exact .inr ⟨rfl,j,by omega,rfl,hb⟩
theorem finAll_set (size slide was line:Int) (had:Bool) (E es:List Ev):WinSet size E (fun k s=>∃ e ∈ es,k=e.key/\∃ j,j < winN size slide e.t/\s=startAt slide e.t j/\finB size was line had s=true) (finAll size slide was line had E es):=by
 induction es using snoc_ind with
 | nil=>exact ⟨List.Pairwise.nil,fun x=>by simp [finAll]⟩
 | snoc es e ih=>
   have e1:finAll size slide was line had E (es++[e])=evFin size slide was line had E e (winN size slide e.t) (finAll size slide was line had E es):=by
    unfold finAll;rw [List.foldl_append];rfl
   rw [e1]
   refine (evFin_set ih e (winN size slide e.t)).congr (fun k s=>?_)
   constructor
   . rintro (⟨x,hx,h⟩ | h)
     . exact ⟨x,List.mem_append_left _ hx,h⟩
     . exact ⟨e,List.mem_append_right _ (List.mem_singleton.2 rfl),h⟩
   . rintro ⟨x,hx,h⟩
     rcases List.mem_append.1 hx with hx | hx
     . exact .inl ⟨x,hx,h⟩
     . rw [List.mem_singleton.1 hx] at h;exact .inr h
end Go.Proofs.YtcfngdnmpogaoaaGreat
namespace Go.Proofs.YtcfngdnmpogaoaaGreat
open Go.RowKit
variable {E:List Ev} {size:Int}
theorem start_iff (size slide t s:Int) (h1:1<=slide):(∃ j,j < winN size slide t/\s=startAt slide t j) ↔ slide ∣ s/\s<=t/\t < s+size:=by
 obtain ⟨d1,d2⟩:=down_le t slide h1
 constructor
 . rintro ⟨j,hj,rfl⟩
   have hw:=(winN_iff size slide t h1 j).2 hj
   refine ⟨?_,?_,by omega⟩
   . unfold startAt
     exact Int.dvd_sub (down_dvd t slide) ⟨(j:Int),Int.mul_comm _ _⟩
   . unfold startAt
     have:0<=(j:Int)*slide:=Int.mul_nonneg (by omega) (by omega)
     omega
 . rintro ⟨hd,hs,ht⟩
   have hle:s<=down t slide:=by
    refine Int.le_of_not_gt (fun hgt=>?_)
    have:=mul_gap (down t slide) s slide h1 (down_dvd t slide) hd (by omega)
    omega
   obtain ⟨q,hq⟩:=Int.dvd_sub (down_dvd t slide) hd
   have hq0:0<=q:=by
    refine Int.le_of_not_gt (fun hgt=>?_)
    have:=Int.mul_lt_mul_of_pos_left hgt (show 0 < slide by omega)
    rw [Int.mul_zero] at this
    omega
   have hst:s=startAt slide t q.toNat:=by
    unfold startAt
    rw [Int.toNat_of_nonneg hq0,Int.mul_comm];omega
   refine ⟨q.toNat,?_,hst⟩
   rw [<- winN_iff size slide t h1 q.toNat,<- hst]
   omega
def winP (size slide:Int) (T:Option Int) (lt:Int) (li:Bool) (E:List Ev) (key:ByteArray) (s:Int):Prop:=
 li=true/\(∃ e ∈ E,e.key=key/\slide ∣ s/\s<=e.t/\e.t < s+size)/\s+size<=lt/\toldB T (s+size)=false
def DoneOk (size slide:Int) (T:Option Int) (lt:Int) (li:Bool) (E:List Ev) (ds:List Win):Prop:=WinSet size E (winP size slide T lt li E) ds
theorem DoneOk.move {slide:Int} {T:Option Int} {lt t:Int} {li:Bool} {ds:List Win} (h:DoneOk size slide T lt li E ds) (h1:1<=slide) (hm:li=true->lt<=t) (hT:∀ x,T=some x->li=true/\x<=lt):DoneOk size slide T t true E (ds++finAll size slide lt t li E E):=by
 have hf:=finAll_set size slide lt t li E E
 have hfB:∀ s,finB size lt t li s=true ↔ s+size<=t/\(li=true->lt < s+size):=fun s=>by
  unfold finB
  cases li <;> simp
 refine ⟨List.pairwise_append.2 ⟨h.order,hf.order,fun a ha b hb=>?_⟩,fun x=>?_⟩
 . obtain ⟨k,s,⟨hl,-,hs,-⟩,rfl⟩:=(h.mem a).1 ha
   obtain ⟨k',s',⟨e,he,-,j,hj,-,hb'⟩,rfl⟩:=(hf.mem b).1 hb
   rw [hfB] at hb'
   have:=hb'.2 hl
   rw [ltW_iff,(winF_key k s size E).2,(winF_key k' s' size E).2]
   exact .inl (by omega)
 . rw [List.mem_append,h.mem,hf.mem]
   constructor
   . rintro (⟨k,s,⟨hl,he,hs,ht⟩,rfl⟩ | ⟨k,s,⟨e,he,rfl,j,hj,hs,hb⟩,rfl⟩)
     . exact ⟨k,s,⟨rfl,he,by have:=hm hl;omega,ht⟩,rfl⟩
     . rw [hfB] at hb
       obtain ⟨q1,q2,q3⟩:=(start_iff size slide e.t s h1).1 ⟨j,hj,hs⟩
       refine ⟨e.key,s,⟨rfl,⟨e,he,rfl,q1,q2,q3⟩,hb.1,?_⟩,rfl⟩
       cases hTT:T with
       | none=>rfl
       | some x=>
         obtain ⟨e1,e2⟩:=hT x hTT
         have:=hb.2 e1
         show decide (s+size<=x)=false
         exact decide_eq_false (by omega)
   . rintro ⟨k,s,⟨-,⟨e,he,rfl,q1,q2,q3⟩,hs,ht⟩,rfl⟩
     by_cases hold:li=true/\s+size<=lt
     . exact .inl ⟨e.key,s,⟨hold.1,⟨e,he,rfl,q1,q2,q3⟩,hold.2,ht⟩,rfl⟩
     . obtain ⟨j,hj,hsj⟩:=(start_iff size slide e.t s h1).2 ⟨q1,q2,q3⟩
       refine .inr ⟨e.key,s,⟨e,he,rfl,j,hj,hsj,?_⟩,rfl⟩
       rw [hfB]
       refine ⟨hs,fun hl=>?_⟩
       refine Int.lt_of_not_ge (fun hge=>hold ⟨hl,hge⟩)
theorem winF_out {key:ByteArray} {s:Int} {e:Ev} (h:s+size<=e.t):winF key s size (E++[e])=winF key s size E:=by
 rw [winF_snoc]
 unfold winStep
 have:inWin key s size e=false:=by
  unfold inWin
  have h2:decide (e.t<=s+size - 1)=false:=decide_eq_false (by omega)
  rw [h2];simp
 rw [this];rfl
theorem DoneOk.event {slide:Int} {T:Option Int} {lt:Int} {li:Bool} {ds:List Win} (h:DoneOk size slide T lt li E ds) (e:Ev) (he:li=true->lt<=e.t):DoneOk size slide T lt li (E++[e]) ds:=by
 refine ⟨h.order,fun x=>?_⟩
 rw [h.mem]
 constructor
 . rintro ⟨k,s,⟨hl,⟨a,ha,hh⟩,hs,ht⟩,rfl⟩
   exact ⟨k,s,⟨hl,⟨a,List.mem_append_left _ ha,hh⟩,hs,ht⟩,(winF_out (by have:=he hl;omega)).symm⟩
 . rintro ⟨k,s,⟨hl,⟨a,ha,hk,q1,q2,q3⟩,hs,ht⟩,rfl⟩
   have hel:=he hl
   rcases List.mem_append.1 ha with ha | ha
   . exact ⟨k,s,⟨hl,⟨a,ha,hk,q1,q2,q3⟩,hs,ht⟩,winF_out (by omega)⟩
   . rw [List.mem_singleton.1 ha] at q3
     omega
theorem DoneOk.take (size slide:Int) (lt:Int) (li:Bool) (E:List Ev):DoneOk size slide (some lt) lt li E []:=by
 refine ⟨List.Pairwise.nil,fun x=>⟨fun h=>(by cases h),fun hx=>?_⟩⟩
 obtain ⟨k,s,⟨_,_,hs,ht⟩,_⟩:=hx
 have h1:decide (s+size<=lt)=true:=decide_eq_true hs
 have ht:decide (s+size<=lt)=false:=ht
 rw [h1] at ht;cases ht
theorem DoneOk.void (size slide:Int) (T:Option Int) (lt:Int) (E:List Ev):DoneOk size slide T lt false E []:=by
 refine ⟨List.Pairwise.nil,fun x=>⟨fun h=>(by cases h),fun hx=>?_⟩⟩
 obtain ⟨k,s,⟨hl,_⟩,_⟩:=hx
 cases hl
end Go.Proofs.YtcfngdnmpogaoaaGreat
namespace Go.Proofs.YtcfngdnmpogaoaaGreat
open Go.RowKit
theorem tagStep_there (t a:Nat) (out:List Nat) (h:a ≠ t):tagStep t (out,true) a=(out++[a],true):=by simp [tagStep,h]
theorem tagStep_now (t a:Nat) (out:List Nat) (h:t<=a) (h2:a ≠ t):tagStep t (out,false) a=(out++[t]++[a],true):=by simp [tagStep,h,h2]
theorem tagStep_is (t a:Nat) (out:List Nat) (h2:a=t):tagStep t (out,false) a=(out++[t],true):=by simp [tagStep,h2]
theorem tagStep_not (t a:Nat) (out:List Nat) (h:¬ t<=a):tagStep t (out,false) a=(out++[a],false):=by
 have h2:a ≠ t:=by omega
 simp [tagStep,h,h2]
theorem wrap64_zero':wrap64 0=0:=by unfold wrap64;omega
theorem tagFold_spec (t:Nat) (l:List Nat) (h:l.Pairwise (· < ·)):(tagFold t l).1.Pairwise (· < ·)/\((tagFold t l).2=true ↔ ∃ x ∈ l,t<=x)/\∀ x,x ∈ (tagFold t l).1 ↔ x ∈ l\/((tagFold t l).2=true/\x=t):=by
 induction l using snoc_ind with
 | nil=>simp [tagFold]
 | snoc l a ih=>
   rw [List.pairwise_append] at h
   obtain ⟨h1,-,h3⟩:=h
   have h4:∀ x ∈ l,x < a:=fun x hx=>h3 x hx a (List.mem_singleton.2 rfl)
   obtain ⟨i1,i2,i3⟩:=ih h1
   rw [tagFold_snoc]
   generalize hst:tagFold t l=st at *
   obtain ⟨out,there⟩:=st
   simp only at i1 i2 i3
   cases there with
   | true=>
     obtain ⟨y,hy,hty⟩:=i2.1 rfl
     have hya:=h4 y hy
     have hat:a ≠ t:=by omega
     rw [tagStep_there t a out hat]
     refine ⟨List.pairwise_append.2 ⟨i1,List.pairwise_singleton ..,fun x hx z hz=>?_⟩,?_,fun x=>?_⟩
     . rw [List.mem_singleton.1 hz]
       rcases (i3 x).1 hx with hx | ⟨_,rfl⟩
       . exact h4 x hx
       . omega
     . exact ⟨fun _=>⟨y,List.mem_append_left _ hy,hty⟩,fun _=>rfl⟩
     . rw [List.mem_append,List.mem_append,i3,List.mem_singleton]
       constructor
       . rintro ((h | h) | h)
         . exact .inl (.inl h)
         . exact .inr h
         . exact .inl (.inr h)
       . rintro ((h | h) | h)
         . exact .inl (.inl h)
         . exact .inr h
         . exact .inl (.inr h)
   | false=>
     have hno:∀ x ∈ l,x < t:=fun x hx=>Nat.lt_of_not_le (fun hle=>by have:=i2.2 ⟨x,hx,hle⟩;cases this)
     have hout:∀ x,x ∈ out ↔ x ∈ l:=fun x=>by rw [i3];simp
     by_cases hta:t<=a
     . by_cases hat:a ≠ t
       . rw [tagStep_now t a out hta hat]
         refine ⟨?_,⟨fun _=>⟨a,List.mem_append_right _ (List.mem_singleton.2 rfl),hta⟩,fun _=>rfl⟩,fun x=>?_⟩
         . rw [List.append_assoc]
           refine List.pairwise_append.2 ⟨i1,?_,fun x hx z hz=>?_⟩
           . exact List.pairwise_cons.2 ⟨fun z hz=>by rw [List.mem_singleton.1 hz];omega,List.pairwise_singleton ..⟩
           . have hxt:=hno x ((hout x).1 hx)
             rcases List.mem_cons.1 hz with rfl | hz
             . exact hxt
             . rw [List.mem_singleton.1 hz];omega
         . simp only [List.mem_append,List.mem_singleton,hout]
           constructor
           . rintro ((h | h) | h)
             . exact .inl (.inl h)
             . exact .inr ⟨trivial,h⟩
             . exact .inl (.inr h)
           . rintro ((h | h) | ⟨_,h⟩)
             . exact .inl (.inl h)
             . exact .inr h
             . exact .inl (.inr h)
       . have hat2:a=t:=Classical.not_not.1 hat
         rw [tagStep_is t a out hat2]
         refine ⟨?_,⟨fun _=>⟨a,List.mem_append_right _ (List.mem_singleton.2 rfl),hta⟩,fun _=>rfl⟩,fun x=>?_⟩
         . refine List.pairwise_append.2 ⟨i1,List.pairwise_singleton ..,fun x hx z hz=>?_⟩
           rw [List.mem_singleton.1 hz]
           exact hno x ((hout x).1 hx)
         . simp only [List.mem_append,List.mem_singleton,hout,hat2]
           constructor
           . rintro (h | h)
             . exact .inl (.inl h)
             . exact .inl (.inr h)
           . rintro ((h | h) | ⟨_,h⟩)
             . exact .inl h
             . exact .inr h
             . exact .inr h
     . rw [tagStep_not t a out hta]
       refine ⟨List.pairwise_append.2 ⟨i1,List.pairwise_singleton ..,fun x hx z hz=>?_⟩,⟨fun hh=>(by cases hh),fun ⟨x,hx,hle⟩=>?_⟩,fun x=>?_⟩
       . rw [List.mem_singleton.1 hz];exact h4 x ((hout x).1 hx)
       . rcases List.mem_append.1 hx with hx | hx
         . have:=hno x hx;omega
         . rw [List.mem_singleton.1 hx] at hle;omega
       . simp only [List.mem_append,List.mem_singleton,hout]
         constructor
         . exact .inl
         . rintro (h | ⟨h,_⟩)
           . exact h
           . cases h
theorem taggedL_spec (l:List Nat) (t:Nat) (h:l.Pairwise (· < ·)):(taggedL l t).Pairwise (· < ·)/\∀ x,x ∈ taggedL l t ↔ x ∈ l\/x=t:=by
 obtain ⟨a1,a2,a3⟩:=tagFold_spec t l h
 unfold taggedL
 cases hb:(tagFold t l).2 with
 | true=>
   rw [if_pos rfl]
   exact ⟨a1,fun x=>by rw [a3,hb];simp⟩
 | false=>
   rw [if_neg (by simp)]
   rw [hb] at a2 a3
   have hno:∀ x ∈ l,x < t:=fun x hx=>Nat.lt_of_not_le (fun hle=>by have:=a2.2 ⟨x,hx,hle⟩;cases this)
   have hm:∀ x,x ∈ (tagFold t l).1 ↔ x ∈ l:=fun x=>by rw [a3];simp
   refine ⟨List.pairwise_append.2 ⟨a1,List.pairwise_singleton ..,fun x hx z hz=>by rw [List.mem_singleton.1 hz];exact hno x ((hm x).1 hx)⟩,fun x=>?_⟩
   rw [List.mem_append,hm,List.mem_singleton]
theorem rising_uniq:∀ (a b:List Nat),a.Pairwise (· < ·)->b.Pairwise (· < ·)->(∀ x,x ∈ a ↔ x ∈ b)->a=b
 | [],[],_,_,_=>rfl
 | [],v :: vs,_,_,h=>by have:=(h v).2 (List.mem_cons_self ..);cases this
 | v :: vs,[],_,_,h=>by have:=(h v).1 (List.mem_cons_self ..);cases this
 | a :: us,b :: bs,h1,h2,h=>by
   obtain ⟨a1,a2⟩:=List.pairwise_cons.1 h1
   obtain ⟨b1,b2⟩:=List.pairwise_cons.1 h2
   have hab:a=b:=by
    rcases List.mem_cons.1 ((h a).1 (List.mem_cons_self ..)) with e | e
    . exact e
    . rcases List.mem_cons.1 ((h b).2 (List.mem_cons_self ..)) with e2 | e2
      . exact e2.symm
      . have:=a1 b e2;have:=b1 a e;omega
   subst hab
   rw [rising_uniq us bs a2 b2 (fun x=>?_)]
   constructor
   . intro hx
     rcases List.mem_cons.1 ((h x).1 (List.mem_cons_of_mem _ hx)) with e | e
     . have:=a1 x hx;omega
     . exact e
   . intro hx
     rcases List.mem_cons.1 ((h x).2 (List.mem_cons_of_mem _ hx)) with e | e
     . have:=b1 x hx;omega
     . exact e
structure WinIs (x:Win) (key:ByteArray) (s:Int) (W:List Ev):Prop where
 key:x.key=key
 start:x.start=s
 cnt:x.cnt=(W.length:Int)
 sum:x.sum=sumV W
 lo:W ≠ []->x.lo=loV W
 hi:W ≠ []->x.hi=hiV W
 rise:x.tags.Pairwise (· < ·)
 tags:∀ t:Nat,t ∈ x.tags ↔ ∃ e ∈ W,e.tag=t
theorem loV_snoc' (W:List Ev) (e:Ev):loV (W++[e])=minV (loV W) e.v:=by unfold loV;rw [List.foldl_append];rfl
theorem hiV_snoc' (W:List Ev) (e:Ev):hiV (W++[e])=maxV (hiV W) e.v:=by unfold hiV;rw [List.foldl_append];rfl
theorem winF_is (key:ByteArray) (s size:Int) (E:List Ev) (hE:∀ e ∈ E,e.fits):WinIs (winF key s size E) key s (E.filter (inWin key s size)):=by
 induction E using snoc_ind with
 | nil=>exact ⟨rfl,rfl,rfl,(by simp [winF,sumV,wrap64_zero']),fun h=>absurd rfl h,fun h=>absurd rfl h,List.Pairwise.nil,fun t=>by simp [winF]⟩
 | snoc E e ih=>
   have ih:=ih (fun x hx=>hE x (List.mem_append_left _ hx))
   obtain ⟨f1,f2,f3⟩:=hE e (List.mem_append_right _ (List.mem_singleton.2 rfl))
   rw [winF_snoc,List.filter_append]
   unfold winStep
   cases hin:inWin key s size e with
   | false=>
     rw [if_neg (by simp)]
     have:[e].filter (inWin key s size)=[]:=by simp [hin]
     rw [this,List.append_nil];exact ih
   | true=>
     rw [if_pos rfl]
     have he:[e].filter (inWin key s size)=[e]:=by simp [hin]
     rw [he]
     generalize E.filter (inWin key s size)=W at *
     generalize winF key s size E=x at *
     obtain ⟨t1,t2⟩:=taggedL_spec x.tags e.tag ih.rise
     refine ⟨ih.key,ih.start,?_,?_,fun _=>?_,fun _=>?_,t1,fun t=>?_⟩
     . show x.cnt+1=_
       rw [ih.cnt,List.length_append];simp
     . show wrap64 (x.sum+e.v)=_
       rw [ih.sum]
       unfold sumV
       rw [wrap64_add,List.map_append,List.sum_append];simp
     . show (if x.cnt=0\/e.v < x.lo then e.v else x.lo)=_
       rw [loV_snoc']
       by_cases hW:W=[]
       . have h0:x.cnt=0:=by rw [ih.cnt,hW];rfl
         rw [if_pos (.inl h0),hW]
         show _=minV 9223372036854775807 e.v
         unfold minV
         by_cases hl:e.v < 9223372036854775807
         . rw [if_pos hl]
         . rw [if_neg hl];omega
       . have h0:¬ x.cnt=0:=by rw [ih.cnt];have:=List.length_pos_iff.2 hW;omega
         rw [ih.lo hW]
         unfold minV
         by_cases hlt:e.v < loV W
         . rw [if_pos (.inr hlt),if_pos hlt]
         . rw [if_neg (by rintro (h | h);exact h0 h;exact hlt h),if_neg hlt]
     . show (if x.cnt=0\/x.hi < e.v then e.v else x.hi)=_
       rw [hiV_snoc']
       by_cases hW:W=[]
       . have h0:x.cnt=0:=by rw [ih.cnt,hW];rfl
         rw [if_pos (.inl h0),hW]
         show _=maxV (-9223372036854775808) e.v
         unfold maxV
         by_cases hl:-9223372036854775808 < e.v
         . rw [if_pos hl]
         . rw [if_neg hl];omega
       . have h0:¬ x.cnt=0:=by rw [ih.cnt];have:=List.length_pos_iff.2 hW;omega
         rw [ih.hi hW]
         unfold maxV
         by_cases hlt:hiV W < e.v
         . rw [if_pos (.inr hlt),if_pos hlt]
         . rw [if_neg (by rintro (h | h);exact h0 h;exact hlt h),if_neg hlt]
     . show t ∈ taggedL x.tags e.tag ↔ _
       rw [t2,ih.tags]
       constructor
       . rintro (⟨a,ha,hat⟩ | rfl)
         . exact ⟨a,List.mem_append_left _ ha,hat⟩
         . exact ⟨e,List.mem_append_right _ (List.mem_singleton.2 rfl),rfl⟩
       . rintro ⟨a,ha,hat⟩
         rcases List.mem_append.1 ha with ha | ha
         . exact .inl ⟨a,ha,hat⟩
         . rw [List.mem_singleton.1 ha] at hat;exact .inr hat.symm
end Go.Proofs.YtcfngdnmpogaoaaGreat
