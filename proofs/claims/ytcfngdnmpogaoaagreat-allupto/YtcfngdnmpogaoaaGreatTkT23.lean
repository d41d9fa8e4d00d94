import Derived.Test.YtcfngdnmpogaoaaGreatTkT22
import Derived.Test.YtcfngdnmpogaoaaGreatTkT15
import Derived.Test.YtcfngdnmpogaoaaGreatTkT16
import Derived.Test.YtcfngdnmpogaoaaGreatTkT13
namespace Go.Proofs.YtcfngdnmpogaoaaGreat
open Go.RowKit
variable {E:List Ev} {T:Option Int}
theorem snoc_ind {α:Type} {P:List α->Prop} (nil:P []) (snoc:∀ l a,P l->P (l++[a])) (l:List α):P l:=by
 rw [<- l.reverse_reverse]
 induction l.reverse with
 | nil=>exact nil
 | cons a l ih=>rw [List.reverse_cons];exact snoc _ _ ih
theorem nodup_le {l m:List ByteArray} (h1:l.Nodup) (h:∀ k,k ∈ l->k ∈ m):l.length<=m.length:=by
 induction l generalizing m with
 | nil=>simp
 | cons a l ih=>
   obtain ⟨x,y,rfl⟩:=List.append_of_mem (h a (by simp))
   rw [List.nodup_cons] at h1
   have:=ih (m:=x++y) h1.2 (fun k hk=>by
    have hk2:=h k (by simp [hk])
    simp only [List.mem_append,List.mem_cons] at hk2 ⊢
    rcases hk2 with h2 | h2 | h2
    . exact .inl h2
    . subst h2;exact absurd hk h1.1
    . exact .inr h2)
   simp at this ⊢;omega
theorem goKeys_mem (size slide lt:Int) (li:Bool) (E:List Ev) (k:ByteArray):k ∈ goKeys size slide lt li E ↔ ∃ e ∈ E,e.key=k/\behind size slide lt li e=false:=by
 induction E using snoc_ind with
 | nil=>simp [goKeys]
 | snoc E e ih=>
   rw [goKeys_snoc]
   have hm:(∃ x ∈ E++[e],x.key=k/\behind size slide lt li x=false) ↔ (k ∈ goKeys size slide lt li E\/e.key=k/\behind size slide lt li e=false):=by
    rw [ih]
    simp only [List.mem_append,List.mem_singleton]
    constructor
    . rintro ⟨x,hx | rfl,h1,h2⟩
      . exact .inl ⟨x,hx,h1,h2⟩
      . exact .inr ⟨h1,h2⟩
    . rintro (⟨x,hx,h1,h2⟩ | ⟨h1,h2⟩)
      . exact ⟨x,.inl hx,h1,h2⟩
      . exact ⟨e,.inr rfl,h1,h2⟩
   rw [hm]
   cases hb:behind size slide lt li e with
   | true=>simp
   | false=>
     cases ha:(goKeys size slide lt li E).any (fun k=>keyEq k e.key) with
     | true=>
       simp only [Bool.or_true,if_true,and_true]
       constructor
       . exact .inl
       . rintro (h | h)
         . exact h
         . obtain ⟨y,hy,he⟩:=List.any_eq_true.1 ha
           rw [keyEq_iff] at he
           rw [<- h,<- he];exact hy
     | false=>simp [eq_comm]
theorem goKeys_nodup (size slide lt:Int) (li:Bool) (E:List Ev):(goKeys size slide lt li E).Nodup:=by
 induction E using snoc_ind with
 | nil=>simp [goKeys]
 | snoc E e ih=>
   rw [goKeys_snoc]
   split
   . exact ih
   . rename_i h
     simp only [Bool.or_eq_true,not_or,Bool.not_eq_true] at h
     rw [(List.perm_append_comm).nodup_iff,List.singleton_append,List.nodup_cons]
     refine ⟨fun hm=>?_,ih⟩
     have:=List.any_eq_false.1 h.2 _ hm
     rw [Bool.not_eq_true,keyEq_false] at this
     exact this rfl
theorem perm_of_nodup {l m:List ByteArray} (h1:l.Nodup) (h2:m.Nodup) (h:∀ k,k ∈ l ↔ k ∈ m):l.length=m.length:=Nat.le_antisymm (nodup_le h1 (fun k hk=>(h k).1 hk)) (nodup_le h2 (fun k hk=>(h k).2 hk))
theorem Mod.goLen {st:St} (h:Mod st E T):st.gs.length=(goKeys st.size st.slide st.lt st.li E).length:=by
 have:=perm_of_nodup h.gsK (goKeys_nodup st.size st.slide st.lt st.li E) (fun k=>by
  rw [goKeys_mem,<- h.going k,List.mem_map])
 simpa using this
structure Cf where
 size:Int
 slide:Int
 late:Int
 keys:Int
structure Sp where
 src:List SrcS
 E:List Ev
 lt:Int
 li:Bool
 n:RCounts
def cfOf (st:St):Cf:=⟨st.size,st.slide,st.late,st.keys⟩
def spOf (st:St) (E:List Ev):Sp:=⟨st.src,E,st.lt,st.li,st.n⟩
def Sp.line (c:Cf) (s:Sp):Sp:={ s with lt:=(lineF c.late s.src s.lt s.li).1,li:=(lineF c.late s.src s.lt s.li).2 }
def raisedS (x:Int) (s:SrcS):SrcS:=if s.is=false\/s.time < x then ⟨s.opened,s.broken,x,true⟩ else s
def Sp.raise (s:Sp) (n:Nat) (t:Int):Sp:={ s with src:=s.src.modify n (raisedS t) }
def Sp.isGo (c:Cf) (s:Sp) (key:ByteArray):Bool:=s.E.any fun e=>!behind c.size c.slide s.lt s.li e && keyEq e.key key
def Sp.many (c:Cf) (s:Sp):Nat:=(goKeys c.size c.slide s.lt s.li s.E).length
def outB (e:Ev):Bool:=decide (e.t < -2305843009213693952) || decide (2305843009213693952 < e.t)
def Sp.mark0 (s:Sp) (n:Nat) (t:Int):Sp:=({ s with n:={ s.n with marks:=wrap64 (s.n.marks+1) } }:Sp).raise n (clampT t)
def Sp.event0 (c:Cf) (s:Sp) (n:Nat) (e:Ev):Sp:=
 if outB e then { s with n:={ s.n with range:=wrap64 (s.n.range+1) } }
 else if s.li && decide (e.t < s.lt) then ({ s with n:={ s.n with late:=wrap64 (s.n.late+1) } }:Sp).raise n e.t
 else if !s.isGo c e.key && decide (c.keys<=(s.many c:Int)) then { s with n:={ s.n with full:=wrap64 (s.n.full+1) } }
 else ({ s with E:=s.E++[e],n:={ s.n with taken:=wrap64 (s.n.taken+1) } }:Sp).raise n e.t
theorem Mod.full {st:St} (h:Mod st E T) (e:Ev):evFull st.keys st.gs e ↔ (!(spOf st E).isGo (cfOf st) e.key && decide ((cfOf st).keys<=((spOf st E).many (cfOf st):Int)))=true:=by
 have hm:((spOf st E).many (cfOf st))=st.gs.length:=h.goLen.symm
 rw [hm]
 have hg:=h.going e.key
 have hi:(spOf st E).isGo (cfOf st) e.key=true ↔ ∃ r ∈ st.gs,r.key=e.key:=by
  rw [hg]
  unfold Sp.isGo
  rw [List.any_eq_true]
  constructor
  . rintro ⟨x,hx,he⟩
    simp only [Bool.and_eq_true,Bool.not_eq_true',keyEq_iff] at he
    exact ⟨x,hx,he.2,he.1⟩
  . rintro ⟨x,hx,h1,h2⟩
    refine ⟨x,hx,?_⟩
    simp only [Bool.and_eq_true,Bool.not_eq_true',keyEq_iff]
    exact ⟨h2,h1⟩
 unfold evFull
 simp only [Bool.and_eq_true,Bool.not_eq_true',decide_eq_true_eq]
 rw [<- Bool.not_eq_true,hi]
 show (st.keys<=_/\_) ↔ (_/\st.keys<=_)
 constructor
 . rintro ⟨h1,h2⟩
   exact ⟨fun ⟨r,hr,hk⟩=>h2 r hr hk,h1⟩
 . rintro ⟨h1,h2⟩
   exact ⟨h2,fun r hr hk=>h1 ⟨r,hr,hk⟩⟩
theorem srcS_raised (s:SSrc) (t:Int):srcS (s.raised t)=raisedS t (srcS s):=by
 unfold SSrc.raised raisedS srcS
 by_cases h:s.is=false\/s.time < t <;> simp [h]
theorem src_set (l:List SSrc) (n:Nat) (s:SSrc) (f:SrcS->SrcS) (s':SSrc) (h:l[n]?=some s) (he:srcS s'=f (srcS s)):(l.set n s').map srcS=(l.map srcS).modify n f:=by
 refine List.ext_getElem? (fun i=>?_)
 rw [List.getElem?_map,List.getElem?_set,List.getElem?_modify,List.getElem?_map]
 by_cases hi:n=i
 . subst hi
   have hl:n < l.length:=(List.getElem?_eq_some_iff.1 h).1
   rw [if_pos rfl,if_pos hl,h];simp [he]
 . simp [hi]
theorem outB_iff (e:Ev):outB e=true ↔ evOut e:=by unfold outB evOut;simp
theorem evRel_sp {r r':SCells} {gs gs' es:List RunX} {n:Nat} {s:SSrc} {e:Ev} (h:EvRel r (rsOf gs) n s e r' (rsOf gs')) (hs:r.src[n]?=some s) (hm:Mod (stOf r gs es) E T) (he:e.fits) :
 ∃ E',Mod (stOf r' gs' es) E' T/\spOf (stOf r' gs' es) E'=Sp.event0 (cfOf (stOf r gs es)) (spOf (stOf r gs es) E) n e/\cfOf (stOf r' gs' es)=cfOf (stOf r gs es)/\r'.lk=r.lk/\r'.src.map SSrc.unread=r.src.map SSrc.unread/\E'.length<=E.length+1:=by
 have hsame:∀ t:Int,(s.raised t).unread=s.unread:=fun t=>by unfold SSrc.raised;split <;> rfl
 have hun:∀ t:Int,(r.src.set n (s.raised t)).map SSrc.unread=r.src.map SSrc.unread:=fun t=>by
  refine List.ext_getElem? (fun i=>?_)
  rw [List.getElem?_map,List.getElem?_set,List.getElem?_map]
  by_cases hi:n=i
  . subst hi
    have hl:n < r.src.length:=(List.getElem?_eq_some_iff.1 hs).1
    rw [if_pos rfl,if_pos hl,hs];simp [hsame]
  . simp [hi]
 have hset:∀ t:Int,(r.src.set n (s.raised t)).map srcS=(r.src.map srcS).modify n (raisedS t):=fun t=>src_set r.src n s _ _ hs (srcS_raised s t)
 have hfull:=hm.full e
 have hlateB:((spOf (stOf r gs es) E).li && decide (e.t < (spOf (stOf r gs es) E).lt))=true ↔ evLate r e:=by
  unfold evLate
  rw [Bool.and_eq_true,decide_eq_true_eq];rfl
 unfold Sp.event0
 rcases h with ⟨h1,rfl,hgs⟩ | ⟨h1,h2,rfl,hgs⟩ | ⟨h1,h2,h3,rfl,hgs⟩ | ⟨h1,h2,h3,⟨gv,rfl⟩,hk⟩
 . refine ⟨E,hm.congr rfl rfl rfl rfl rfl rfl hgs rfl,?_,rfl,rfl,rfl,by omega⟩
   rw [if_pos ((outB_iff e).2 h1)]
   rfl
 . refine ⟨E,hm.congr rfl rfl rfl rfl rfl rfl hgs rfl,?_,rfl,rfl,hun _,by omega⟩
   rw [if_neg (fun hh=>h1 ((outB_iff e).1 hh)),if_pos (hlateB.2 h2)]
   unfold spOf Sp.raise stOf
   simp only [Sp.mk.injEq,true_and]
   exact ⟨hset e.t,rfl,rfl,rfl⟩
 . refine ⟨E,hm.congr rfl rfl rfl rfl rfl rfl hgs rfl,?_,rfl,rfl,rfl,by omega⟩
   rw [if_neg (fun hh=>h1 ((outB_iff e).1 hh)),if_neg (fun hh=>h2 (hlateB.1 hh)),if_pos (hfull.1 h3)]
   rfl
 . have hev:evOk e:=by
    refine ⟨he,?_⟩
    unfold evOut at h1
    omega
   refine ⟨E++[e],(hm.keep hev (fun hh=>h2 hh) h3 hk).congr rfl rfl rfl rfl rfl rfl rfl rfl,?_,rfl,rfl,hun _,by simp⟩
   rw [if_neg (fun hh=>h1 ((outB_iff e).1 hh)),if_neg (fun hh=>h2 (hlateB.1 hh)),if_neg (fun hh=>h3 (hfull.2 hh))]
   unfold spOf Sp.raise stOf
   simp only [Sp.mk.injEq,true_and]
   exact ⟨hset e.t,rfl,rfl,rfl⟩
end Go.Proofs.YtcfngdnmpogaoaaGreat
namespace Go.Proofs.YtcfngdnmpogaoaaGreat
open Go.RowKit
variable {E:List Ev} {g:Nat} {r:RCells} {w w':World}
def RCells.head (r:RCells):List Value:=[.int .i64 r.size,.int .i64 r.slide,.int .i64 r.late,.int .i64 r.keys]
def RCells.tail (r:RCells):List Value:=[r.events,.bool r.lined,.int .i64 r.line,r.done]++r.n.cells
theorem RCells.cells_eq (r:RCells):r.cells=r.head++(r.src.flatMap RSrc.cells++r.tail):=by
 simp [RCells.cells,RCells.head,RCells.tail,List.append_assoc]
theorem RF.headAt (h:RF w g r) (k:Nat) {v:Value} (hv:r.head[k]?=some v):w.cell? ⟨g,k,none⟩=some v:=by
 have hk:k < r.head.length:=(List.getElem?_eq_some_iff.1 hv).1
 refine h.cell ?_
 rw [r.cells_eq,List.getElem?_append_left hk];exact hv
theorem RF.tailAt (h:RF w g r) (k:Nat) {v:Value} (hv:r.tail[k]?=some v):w.cell? ⟨g,44+k,none⟩=some v:=by
 have hl:=flat5_length r.src
 rw [h.len] at hl
 have hh:r.head.length=4:=rfl
 refine h.cell ?_
 rw [r.cells_eq,List.getElem?_append_right (by omega),List.getElem?_append_right (by omega),hl,hh,show 44+k - 4 - 5*8=k from by omega];exact hv
theorem RF.putTail {r':RCells} (h:RF w g r) (k:Nat) (v:Value) (h1:r'.head=r.head) (h2:r'.src=r.src) (h3:r'.tail=r.tail.set k v):RF (w.setCell ⟨g,44+k,none⟩ v) g r':=by
 have hl:=flat5_length r.src
 rw [h.len] at hl
 have hh:r.head.length=4:=rfl
 refine h.put _ _ ?_ (by rw [h2];exact h.len)
 rw [r.cells_eq,r'.cells_eq,h1,h2,h3,List.set_append_right _ _ (by omega),List.set_append_right _ _ (by omega),hl,hh,show 44+k - 4 - 5*8=k from by omega]
theorem RF.lt (h:RF w g r):g < w.heap.size:=(Array.getElem?_eq_some_iff.1 h.blk).1
theorem RF.congr (h:RF w g r) (hb:w'.heap[g]?=w.heap[g]?):RF w' g r:=⟨by rw [hb];exact h.blk,h.len⟩
theorem RF.below {B:Nat} (h:RF w g r) (hb:Below B w w') (hg:g < B):RF w' g r:=h.congr (hb.block g hg)
def evCells (e:Ev):List Value:=[.int .i64 1,.string e.key,.int .i64 e.t,.int .i64 e.v,.int .u32 (e.tag:Int)]
theorem evFlat (l:List Ev) (j k:Nat) (e:Ev) (hs:l[j]?=some e) (hk:k < 5):(l.flatMap evCells)[j*5+k]?=(evCells e)[k]?:=by
 induction l generalizing j with
 | nil=>simp at hs
 | cons a l ih=>
   have ha:(evCells a).length=5:=rfl
   cases j with
   | zero=>
     simp at hs
     subst hs
     rw [List.flatMap_cons,List.getElem?_append_left (by omega)]
     simp
   | succ j=>
     simp at hs
     rw [List.flatMap_cons,List.getElem?_append_right (by omega),<- ih j hs]
     congr 1
     omega
theorem evFlat_len (l:List Ev):(l.flatMap evCells).length=5*l.length:=by
 induction l with
 | nil=>rfl
 | cons a l ih=>rw [List.flatMap_cons,List.length_append,ih];simp [evCells];omega
structure REv (w:World) (g:Nat) (r:RCells) (E:List Ev):Prop where
 rf:RF w g r
 ev:Row w 28 5 r.events (E.flatMap evCells)
theorem REv.below (h:REv w g r E) (hb:Below w.heap.size w w'):REv w' g r E:=⟨h.rf.below hb h.rf.lt,h.ev.below hb (fun _ hk=>(h.ev.blk_lt hk).1)⟩
theorem REv.shape (h:REv w g r E):∃ a c,r.events=.slice a E.length c:=by
 rcases h.ev with ⟨h1,h2⟩ | ⟨ge,off,n,cap,cur,h1,_,_,_,_,h6,_⟩
 . have:=congrArg List.length h2
   rw [evFlat_len,List.length_nil] at this
   exact ⟨none,0,by rw [h1,show E.length=0 from by omega]⟩
 . rw [evFlat_len] at h6
   exact ⟨_,cap,by rw [h1,show n=E.length from by omega]⟩
theorem REv.item (h:REv w g r E) {n:Nat} {e:Ev} (hn:E[n]?=some e):∃ ge off cap,r.events=.slice (some ⟨ge,off,none⟩) E.length cap/\ge < w.heap.size /\
 w.cell? ⟨ge,off+n*5,none⟩=some (.int .i64 1)/\w.cell? ⟨ge,off+n*5+1,none⟩=some (.string e.key)/\w.cell? ⟨ge,off+n*5+2,none⟩=some (.int .i64 e.t)/\w.cell? ⟨ge,off+n*5+3,none⟩=some (.int .i64 e.v)/\w.cell? ⟨ge,off+n*5+4,none⟩=some (.int .u32 (e.tag:Int)):=by
 have hnl:n < E.length:=(List.getElem?_eq_some_iff.1 hn).1
 rcases h.ev with ⟨h1,h2⟩ | ⟨ge,off,m,cap,cur,h1,hg,h3,h4,h5,h6,h7⟩
 . have:=congrArg List.length h2
   rw [evFlat_len,List.length_nil] at this
   omega
 . have hlen:=evFlat_len E
   rw [hlen] at h6
   have hm:m=E.length:=by omega
   subst hm
   have hc:∀ k,k < 5->w.cell? ⟨ge,off+n*5+k,none⟩=(evCells e)[k]?:=fun k hk=>by
    rw [<- evFlat E n k e hn hk,<- h7 (n*5+k) (by omega)]
    simp [World.cell?,hg,Nat.add_assoc]
   refine ⟨ge,off,cap,h1,(Array.getElem?_eq_some_iff.1 hg).1,?_⟩
   exact ⟨hc 0 (by omega),hc 1 (by omega),hc 2 (by omega),hc 3 (by omega),hc 4 (by omega)⟩
structure Win where
 key:ByteArray
 start:Int
 cnt:Int
 sum:Int
 lo:Int
 hi:Int
 tags:List Nat
def inWin (key:ByteArray) (s size:Int) (e:Ev):Bool:=keyEq e.key key && (decide (s<=e.t) && decide (e.t<=s+size - 1))
def winStep (key:ByteArray) (s size:Int) (x:Win) (e:Ev):Win:=
 if inWin key s size e then ⟨x.key,x.start,x.cnt+1,wrap64 (x.sum+e.v),if x.cnt=0\/e.v < x.lo then e.v else x.lo,if x.cnt=0\/x.hi < e.v then e.v else x.hi,taggedL x.tags e.tag⟩ else x
def winF (key:ByteArray) (s size:Int) (E:List Ev):Win:=E.foldl (winStep key s size) ⟨key,s,0,0,0,0,[]⟩
theorem winF_snoc (key:ByteArray) (s size:Int) (E:List Ev) (e:Ev):winF key s size (E++[e])=winStep key s size (winF key s size E) e:=by unfold winF;rw [List.foldl_append];rfl
theorem winF_take (key:ByteArray) (s size:Int) (E:List Ev) (n:Nat) (e:Ev) (h:E[n]?=some e):winF key s size (E.take (n+1))=winStep key s size (winF key s size (E.take n)) e:=by
 have hn:n < E.length:=(List.getElem?_eq_some_iff.1 h).1
 have he:E[n]=e:=(List.getElem?_eq_some_iff.1 h).2
 rw [List.take_succ_eq_append_getElem hn,winF_snoc,he]
theorem winF_bound (key:ByteArray) (s size:Int) (E:List Ev):0<=(winF key s size E).cnt/\(winF key s size E).cnt<=E.length/\(winF key s size E).tags.length<=E.length:=by
 induction E using snoc_ind with
 | nil=>simp [winF]
 | snoc E e ih=>
   rw [winF_snoc,List.length_append]
   unfold winStep
   split
   . refine ⟨by simp only;omega,by simp only [List.length_cons,List.length_nil];omega,?_⟩
     have:=tagged_len (winF key s size E).tags e.tag
     simp only [List.length_cons,List.length_nil];omega
   . exact ⟨ih.1,by omega,by omega⟩
end Go.Proofs.YtcfngdnmpogaoaaGreat
namespace Go.Proofs.YtcfngdnmpogaoaaGreat
open Go.RowKit Go.MuLone
variable {b:Nat} {cm gg:List (Int × Int)} {cnt sum:Int} {cv gv:Value} {f:Int->Nat} {w:World}
set_option maxHeartbeats 6400000
set_option maxRecDepth 20000
def RisingOk:Prop:=∀ (M:Nat) (f:Int->Nat) (W:World),TagC W M f->Calls Tryz.prog 129 #[.map (some M)] W fun e w'=>∃ ta tn tc,∃ l:List Nat,e=.returned (.slice ta tn tc)/\Row w' 26 1 (.slice ta tn tc) (l.map tagV)/\l.Pairwise (· < ·)/\(∀ x:Nat,x ∈ l ↔ 0 < f x)/\(∀ k,(Value.slice ta tn tc).ownBlock=some k->W.heap.size<=k)/\Below W.heap.size W w'
structure PartsT (w:World) (b:Nat) (cv gv:Value) (cnt sum:Int) (cm gg:List (Int × Int)) (f:Int->Nat):Prop where
 tot:w.heap[b]?=some (.cells #[.int .i64 cnt,.int .i64 sum] 214 (0,0))
 bnd:w.heap[b+1]?=some (.cells #[cv,gv] 240 (0,0))
 rc:Row w 261 4 cv (levels cm)
 rg:Row w 261 4 gv (levels gg)
 l1:cm.length<=1000000000
 l2:gg.length<=1000000000
 tags:TagC w (b+2) f
 all:w.heap[b+3]?=some (.cells #[.iface 212 (.pointer (some ⟨b,0,none⟩)),.iface 215 (.pointer (some ⟨b+1,0,none⟩)),.iface 218 (.map (some (b+2)))] 210 (0,0))
theorem PartsT.congr {w':World} (h:PartsT w b cv gv cnt sum cm gg f) (hb:∀ k,partsFoot b cv gv k->w'.heap[k]?=w.heap[k]?):PartsT w' b cv gv cnt sum cm gg f:=
 ⟨(hb b (.inl (by omega))).trans h.tot,(hb _ (.inl (by omega))).trans h.bnd,h.rc.congr (fun k hk=>hb k (.inr (.inl hk))),h.rg.congr (fun k hk=>hb k (.inr (.inr hk))),h.l1,h.l2,h.tags.congr (hb _ (.inl (by omega))),(hb _ (.inl (by omega))).trans h.all⟩
theorem PartsT.foot (h:PartsT w b cv gv cnt sum cm gg f):∀ k,partsFoot b cv gv k->k < w.heap.size:=fun k hk=>by
 rcases hk with ⟨a1,a2⟩ | hk | hk
 . have:=blkLt h.all;omega
 . exact (h.rc.blk_lt hk).1
 . exact (h.rg.blk_lt hk).1
theorem PartsT.below {w':World} (h:PartsT w b cv gv cnt sum cm gg f) (hb:Below w.heap.size w w'):PartsT w' b cv gv cnt sum cm gg f:=h.congr (fun k hk=>hb.block k (h.foot k hk))
theorem PartsT.other (h:PartsT w b cv gv cnt sum cm gg f) (V i:Nat) (v:Value) (hV:∀ k,partsFoot b cv gv k->k ≠ V):PartsT (w.setCell ⟨V,i,none⟩ v) b cv gv cnt sum cm gg f:=h.congr (fun k hk=>heap_setCell_other _ _ _ _ (hV k hk))
def wdC (key:ByteArray) (start cnt sum lo hi:Int) (tv:Value):Array Value:=#[.string key,.int .i64 start,.int .i64 cnt,.int .i64 sum,.int .i64 lo,.int .i64 hi,tv]
theorem wdCAt {V:Nat} {key:ByteArray} {start lo hi:Int} {tv:Value} (h:w.heap[V]?=some (.cells (wdC key start cnt sum lo hi tv) 70 (0,0))) :
 w.cell? ⟨V,0,none⟩=some (.string key)/\w.cell? ⟨V,1,none⟩=some (.int .i64 start)/\w.cell? ⟨V,2,none⟩=some (.int .i64 cnt)/\w.cell? ⟨V,3,none⟩=some (.int .i64 sum)/\w.cell? ⟨V,4,none⟩=some (.int .i64 lo)/\w.cell? ⟨V,5,none⟩=some (.int .i64 hi)/\w.cell? ⟨V,6,none⟩=some tv/\(∀ j,w.frozen? ⟨V,j,none⟩=false):=
 ⟨blkCell h rfl,blkCell h rfl,blkCell h rfl,blkCell h rfl,blkCell h rfl,blkCell h rfl,blkCell h rfl,blkFrozen h⟩
theorem told_of (HRis:RisingOk) (key:ByteArray) (start:Int) (b:Nat) (cv gv:Value) (cnt sum:Int) (cm gg:List (Int × Int)) (f:Int->Nat) (w:World) (h:PartsT w b cv gv cnt sum cm gg f) :
 Calls Tryz.prog 103 #[.string key,.int .i64 start,.slice (some ⟨b+3,0,none⟩) 3 3] w fun e w'=>∃ ta tn tc,∃ l:List Nat,e=.returned (.agg #[.string key,.int .i64 start,.int .i64 cnt,.int .i64 sum,.int .i64 (joinS (runS cm) (runS gg)).1,.int .i64 (joinS (runS cm) (runS gg)).2,.slice ta tn tc]) /\
  Row w' 26 1 (.slice ta tn tc) (l.map tagV)/\l.Pairwise (· < ·)/\(∀ x:Nat,x ∈ l ↔ 0 < f x)/\(∀ k,(Value.slice ta tn tc).ownBlock=some k->w.heap.size<=k)/\Below w.heap.size w w':=by
 have HRisH:Hid RisingOk:=HRis
 obtain ⟨X,HX⟩:∃ X,Hid ((joinS (runS cm) (runS gg)).1=X):=⟨_,rfl⟩
 obtain ⟨Y,HY⟩:∃ Y,Hid ((joinS (runS cm) (runS gg)).2=Y):=⟨_,rfl⟩
 rw [HX.out,HY.out]
 clear HRis
 have hbs:=blkLt h.all
 have hft:=h.foot
 go_enter Tryz.func103,Tryz.ntmps103
 go_upto_region 3 with fail
 obtain ⟨hR,hV⟩:=two_new w (.cells (wdC ⟨#[]⟩ 0 0 0 0 0 (.slice none 0 0)) 70) (.cells (wdC key start 0 0 0 0 (.slice none 0 0)) 70)
 have B1:Hid (Below w.heap.size w ((w.alloc (.cells (wdC ⟨#[]⟩ 0 0 0 0 0 (.slice none 0 0)) 70)).alloc (.cells (wdC key start 0 0 0 0 (.slice none 0 0)) 70))):=((Below.refl _ w).alloc (Nat.le_refl _) _).alloc (by simp) _
 have h1:=h.below B1.out
 have hz1:w.heap.size+1 < ((w.alloc (.cells (wdC ⟨#[]⟩ 0 0 0 0 0 (.slice none 0 0)) 70)).alloc (.cells (wdC key start 0 0 0 0 (.slice none 0 0)) 70)).heap.size:=blkLt hV
 change Code.wp _ _ _ _ ((w.alloc (.cells (wdC ⟨#[]⟩ 0 0 0 0 0 (.slice none 0 0)) 70)).alloc (.cells (wdC key start 0 0 0 0 (.slice none 0 0)) 70))
 generalize (w.alloc (.cells (wdC ⟨#[]⟩ 0 0 0 0 0 (.slice none 0 0)) 70)).alloc (.cells (wdC key start 0 0 0 0 (.slice none 0 0)) 70)=W1 at *
 obtain ⟨R,HR⟩:∃ R,Hid (w.heap.size=R):=⟨_,rfl⟩
 obtain ⟨V,HV⟩:∃ V,Hid (R+1=V):=⟨_,rfl⟩
 rw [HR.out] at hR hV hz1 B1 hbs hft ⊢
 rw [HV.out] at hV hz1 ⊢
 have hbV:b+3 < V:=by rw [<- HV.out];omega
 have hgV:∀ k,partsFoot b cv gv k->k ≠ V:=fun k hk=>by have:=hft k hk;rw [<- HV.out];omega
 have hVb:V ≠ b:=by omega
 have hRV:R ≠ V:=by rw [<- HV.out];omega
 clear h
 have p0:=blkCell h1.all (i:=0) rfl
 have t0:=blkCell h1.tot (i:=0) rfl
 have t1:=blkCell h1.tot (i:=1) rfl
 obtain ⟨v0,v1,v2,v3,v4,v5,v6,vf⟩:=wdCAt hV
 have ta0:∀ W:World,(Instr.typeAssert (.iface 212 (.pointer (some ⟨b,0,none⟩))) 210 212 true).run Tryz.prog W=.ok (.tuple #[.pointer (some ⟨b,0,none⟩),.bool true]) W:=fun _=>by kernel_rfl
 have ta1:∀ W:World,(Instr.typeAssert (.iface 215 (.pointer (some ⟨b+1,0,none⟩))) 210 212 true).run Tryz.prog W=.ok (.tuple #[.pointer none,.bool false]) W:=fun _=>by kernel_rfl
 have ta2:∀ W:World,(Instr.typeAssert (.iface 215 (.pointer (some ⟨b+1,0,none⟩))) 210 215 true).run Tryz.prog W=.ok (.tuple #[.pointer (some ⟨b+1,0,none⟩),.bool true]) W:=fun _=>by kernel_rfl
 have ta3:∀ W:World,(Instr.typeAssert (.iface 218 (.map (some (b+2)))) 210 212 true).run Tryz.prog W=.ok (.tuple #[.pointer none,.bool false]) W:=fun _=>by kernel_rfl
 have ta4:∀ W:World,(Instr.typeAssert (.iface 218 (.map (some (b+2)))) 210 215 true).run Tryz.prog W=.ok (.tuple #[.pointer none,.bool false]) W:=fun _=>by kernel_rfl
 have ta5:∀ W:World,(Instr.typeAssert (.iface 218 (.map (some (b+2)))) 210 218 true).run Tryz.prog W=.ok (.tuple #[.map (some (b+2)),.bool true]) W:=fun _=>by kernel_rfl
 refine wp_loop_rounds 4 ?_
 rw [rounds_succ]
 go_wp2_with fail
 have hdb:V ≠ b:=hVb
 have hdb':b ≠ V:=Ne.symm hVb
 go_region_held3 (fun W=>W.cell? ⟨b,0,none⟩=some (.int .i64 cnt)/\W.cell? ⟨b,1,none⟩=some (.int .i64 sum)) (go_keep) (fail)
 have hV2:((W1.setCell ⟨V,2,none⟩ (.int .i64 cnt)).setCell ⟨V,3,none⟩ (.int .i64 sum)).drew.heap[V]?=some (.cells (wdC key start cnt sum 0 0 (.slice none 0 0)) 70 (0,0)):=blkPut (blkPut hV 2 (.int .i64 cnt)) 3 (.int .i64 sum)
 have hR2:((W1.setCell ⟨V,2,none⟩ (.int .i64 cnt)).setCell ⟨V,3,none⟩ (.int .i64 sum)).drew.heap[R]?=some (.cells (wdC ⟨#[]⟩ 0 0 0 0 0 (.slice none 0 0)) 70 (0,0)):=blkOther (blkOther hR V 2 (.int .i64 cnt) hRV) V 3 (.int .i64 sum) hRV
 have h2:PartsT ((W1.setCell ⟨V,2,none⟩ (.int .i64 cnt)).setCell ⟨V,3,none⟩ (.int .i64 sum)).drew b cv gv cnt sum cm gg f:=((h1.other V 2 (.int .i64 cnt) hgV).other V 3 (.int .i64 sum) hgV).below ((Below.refl _ _).drew)
 have hVR:R<=V:=by rw [<- HV.out];omega
 have B2:=hid (((B1.out.setCell (p:=⟨V,2,none⟩) hVR (.int .i64 cnt)).setCell (p:=⟨V,3,none⟩) hVR (.int .i64 sum)).drew)
 clear p0 t0 t1 v0 v1 v2 v3 v4 v5 v6 vf hV hR h1 B1 hz1 ta0
 generalize ((W1.setCell ⟨V,2,none⟩ (.int .i64 cnt)).setCell ⟨V,3,none⟩ (.int .i64 sum)).drew=W2 at *
 have p1:=blkCell h2.all (i:=1) rfl
 go_wp2_with fail
 rw [rounds_succ]
 go_wp2_with fail
 refine (bounds_whole_any (b+1) cv gv cm gg W2 h2.bnd h2.rc h2.rg h2.l1 h2.l2).mono ?_
 rw [HX.out,HY.out]
 rintro e W3 ⟨rfl,hb3⟩
 have hV3:=blkBelow hV2 hb3
 have hR3:=blkBelow hR2 hb3
 have h3:=h2.below hb3
 have B3:=hid (B2.out.trans (hb3.mono (Nat.le_of_lt (blkLt hR2))))
 clear hb3 hV2 hR2 h2 B2 p1
 go_upto_region 12 with fail
 have hx4:=heap_alloc_new W3 (.cells #[.int .i64 X,.int .i64 Y] 204)
 have hV4:=blkAlloc hV3 (.cells #[.int .i64 X,.int .i64 Y] 204)
 have hR4:=blkAlloc hR3 (.cells #[.int .i64 X,.int .i64 Y] 204)
 have h4:=h3.below ((Below.refl _ W3).alloc (Nat.le_refl _) (.cells #[.int .i64 X,.int .i64 Y] 204))
 have B4:Hid (Below R w (W3.alloc (.cells #[.int .i64 X,.int .i64 Y] 204))):=B3.out.alloc (Nat.le_of_lt (blkLt hR3)) _
 have hxV:W3.heap.size ≠ V:=by have:=blkLt hV3;omega
 clear hV3 hR3 h3 B3
 generalize W3.alloc (.cells #[.int .i64 X,.int .i64 Y] 204)=W4 at *
 generalize W3.heap.size=x at *
 have hVx:V ≠ x:=Ne.symm hxV
 obtain ⟨y0,y1,-,-⟩:=cells2At hx4
 obtain ⟨v0,v1,v2,v3,v4,v5,v6,vf⟩:=wdCAt hV4
 go_region_held3 (fun W=>W.cell? ⟨x,0,none⟩=some (.int .i64 X)/\W.cell? ⟨x,1,none⟩=some (.int .i64 Y)) (go_keep) (fail)
 have hV5:((W4.setCell ⟨V,4,none⟩ (.int .i64 X)).setCell ⟨V,5,none⟩ (.int .i64 Y)).drew.heap[V]?=some (.cells (wdC key start cnt sum X Y (.slice none 0 0)) 70 (0,0)):=blkPut (blkPut hV4 4 (.int .i64 X)) 5 (.int .i64 Y)
 have hR5:((W4.setCell ⟨V,4,none⟩ (.int .i64 X)).setCell ⟨V,5,none⟩ (.int .i64 Y)).drew.heap[R]?=some (.cells (wdC ⟨#[]⟩ 0 0 0 0 0 (.slice none 0 0)) 70 (0,0)):=blkOther (blkOther hR4 V 4 (.int .i64 X) hRV) V 5 (.int .i64 Y) hRV
 have h5:PartsT ((W4.setCell ⟨V,4,none⟩ (.int .i64 X)).setCell ⟨V,5,none⟩ (.int .i64 Y)).drew b cv gv cnt sum cm gg f:=((h4.other V 4 (.int .i64 X) hgV).other V 5 (.int .i64 Y) hgV).below ((Below.refl _ _).drew)
 have B5:=hid (((B4.out.setCell (p:=⟨V,4,none⟩) hVR (.int .i64 X)).setCell (p:=⟨V,5,none⟩) hVR (.int .i64 Y)).drew)
 clear v0 v1 v2 v3 v4 v5 v6 vf y0 y1 hx4 hV4 hR4 h4 B4 ta1 ta2 hxV hVx
 generalize ((W4.setCell ⟨V,4,none⟩ (.int .i64 X)).setCell ⟨V,5,none⟩ (.int .i64 Y)).drew=W5 at *
 have p2:=blkCell h5.all (i:=2) rfl
 go_wp2_with fail
 rw [rounds_succ]
 go_wp2_with fail
 refine (HRisH.out (b+2) f W5 h5.tags).mono ?_
 rintro e W6 ⟨ta,tn,tc,l,rfl,htr,hpw,hmm,htg,hb6⟩
 have hV6:=blkBelow hV5 hb6
 have hR6:=blkBelow hR5 hb6
 have B6:=hid (B5.out.trans (hb6.mono (Nat.le_of_lt (blkLt hR5))))
 have htV:(Value.slice ta tn tc).ownBlock ≠ some V:=fun e=>by have:=htg V e;have:=blkLt hV5;omega
 have HtR:Hid (∀ k,(Value.slice ta tn tc).ownBlock=some k->R < k):=fun k hk=>by have:=htg k hk;have:=blkLt hR5;omega
 have HPw:Hid (l.Pairwise (· < ·)/\∀ x:Nat,x ∈ l ↔ 0 < f x):=⟨hpw,hmm⟩
 clear hpw hmm
 have Htr:=hid htr
 clear hb6 hV5 hR5 h5 B5 p2 htr htg
 obtain ⟨v0,v1,v2,v3,v4,v5,v6,vf⟩:=wdCAt hV6
 go_wp2_with fail
 have hV7:(W6.setCell ⟨V,6,none⟩ (.slice ta tn tc)).heap[V]?=some (.cells (wdC key start cnt sum X Y (.slice ta tn tc)) 70 (0,0)):=blkPut hV6 6 _
 have hR7:=blkOther hR6 V 6 (.slice ta tn tc) hRV
 have B7:Hid (Below R w (W6.setCell ⟨V,6,none⟩ (.slice ta tn tc))):=B6.out.setCell (p:=⟨V,6,none⟩) hVR _
 have Ht7:Hid (Row (W6.setCell ⟨V,6,none⟩ (.slice ta tn tc)) 26 1 (.slice ta tn tc) (l.map tagV)):=Htr.out.setCell _ _ htV
 clear v0 v1 v2 v3 v4 v5 v6 vf hV6 hR6 B6 Htr ta3 ta4 ta5
 generalize W6.setCell ⟨V,6,none⟩ (.slice ta tn tc)=W7 at *
 obtain ⟨v0,v1,v2,v3,v4,v5,v6,-⟩:=wdCAt hV7
 obtain ⟨r0,r1,r2,r3,r4,r5,r6,rf⟩:=wdCAt hR7
 rw [rounds_succ]
 go_wp2
 have hR8:(((((((W7.setCell ⟨R,0,none⟩ (.string key)).setCell ⟨R,1,none⟩ (.int .i64 start)).setCell ⟨R,2,none⟩ (.int .i64 cnt)).setCell ⟨R,3,none⟩ (.int .i64 sum)).setCell ⟨R,4,none⟩ (.int .i64 X)).setCell ⟨R,5,none⟩ (.int .i64 Y)).setCell ⟨R,6,none⟩ (.slice ta tn tc)).heap[R]?=some (.cells (wdC key start cnt sum X Y (.slice ta tn tc)) 70 (0,0)):=blkPut (blkPut (blkPut (blkPut (blkPut (blkPut (blkPut hR7 0 (.string key)) 1 (.int .i64 start)) 2 (.int .i64 cnt)) 3 (.int .i64 sum)) 4 (.int .i64 X)) 5 (.int .i64 Y)) 6 (.slice ta tn tc)
 have K8:Kept (fun k=>k=R) W7 (((((((W7.setCell ⟨R,0,none⟩ (.string key)).setCell ⟨R,1,none⟩ (.int .i64 start)).setCell ⟨R,2,none⟩ (.int .i64 cnt)).setCell ⟨R,3,none⟩ (.int .i64 sum)).setCell ⟨R,4,none⟩ (.int .i64 X)).setCell ⟨R,5,none⟩ (.int .i64 Y)).setCell ⟨R,6,none⟩ (.slice ta tn tc)):=(((((((Kept.refl (fun k=>k=R) W7).setCell ⟨R,0,none⟩ _ (fun _=>rfl)).setCell ⟨R,1,none⟩ _ (fun _=>rfl)).setCell ⟨R,2,none⟩ _ (fun _=>rfl)).setCell ⟨R,3,none⟩ _ (fun _=>rfl)).setCell ⟨R,4,none⟩ _ (fun _=>rfl)).setCell ⟨R,5,none⟩ _ (fun _=>rfl)).setCell ⟨R,6,none⟩ _ (fun _=>rfl)
 have B8:=B7.out.trans (K8.toBelow (B:=R) (Nat.le_of_lt (blkLt hR7)) (fun k hk h=>by omega))
 have Ht8:=Ht7.out.congr (w':=((((((W7.setCell ⟨R,0,none⟩ (.string key)).setCell ⟨R,1,none⟩ (.int .i64 start)).setCell ⟨R,2,none⟩ (.int .i64 cnt)).setCell ⟨R,3,none⟩ (.int .i64 sum)).setCell ⟨R,4,none⟩ (.int .i64 X)).setCell ⟨R,5,none⟩ (.int .i64 Y)).setCell ⟨R,6,none⟩ (.slice ta tn tc)) (fun k hk=>K8.block k (Ht7.out.blk_lt hk).1 (fun h=>by have:=HtR.out k hk;omega))
 clear v0 v1 v2 v3 v4 v5 v6 r0 r1 r2 r3 r4 r5 r6 rf K8
 generalize ((((((W7.setCell ⟨R,0,none⟩ (.string key)).setCell ⟨R,1,none⟩ (.int .i64 start)).setCell ⟨R,2,none⟩ (.int .i64 cnt)).setCell ⟨R,3,none⟩ (.int .i64 sum)).setCell ⟨R,4,none⟩ (.int .i64 X)).setCell ⟨R,5,none⟩ (.int .i64 Y)).setCell ⟨R,6,none⟩ (.slice ta tn tc)=W8 at *
 obtain ⟨r0,r1,r2,r3,r4,r5,r6,-⟩:=wdCAt hR8
 exact bodyPost_ret (v:=.agg #[.string key,.int .i64 start,.int .i64 cnt,.int .i64 sum,.int .i64 X,.int .i64 Y,.slice ta tn tc]) (by simp [results,Tryz.results103,go_sem,r0,r1,r2,r3,r4,r5,r6]) rfl ⟨ta,tn,tc,l,rfl,Ht8,HPw.out.1,HPw.out.2,fun k hk=>by have:=HtR.out k hk;rw [HR.out];omega,by rw [HR.out];exact B8⟩
end Go.Proofs.YtcfngdnmpogaoaaGreat
