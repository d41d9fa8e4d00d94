import Derived.Test.YtcfngdnmpogaoaaGreatTkT08
import Derived.Maps.RangeWalk
import Derived.Maps.OwnSet
import Derived.Maps.Ext
namespace Go.Proofs.YtcfngdnmpogaoaaGreat
open Go.RowKit Go.MuLone
end Go.Proofs.YtcfngdnmpogaoaaGreat
namespace Go.Proofs.YtcfngdnmpogaoaaGreat
open Go.RowKit Go.MuLone
theorem zeroInt (w:World):(zeroValue 3).run Tryz.prog w = .ok (.int .i64 0) w:=Tryz.zeroValue3 w
end Go.Proofs.YtcfngdnmpogaoaaGreat
namespace Go.Proofs.YtcfngdnmpogaoaaGreat
open Go.RowKit Go.MuLone Go.Maps
variable {D:DataW Unit} {f:Int -> Nat}
theorem len_rising (es:List (Lit × DataW Unit)):∀ (a:Int),es.Pairwise (fun p q=>p.1.before q.1 = true) -> (∀ p ∈ es,∃ x:Int,p.1 = .int .u32 x /\ a <= x /\ x < 4294967296) -> (es.length:Int) <= max 0 (4294967296 - a):=by
 induction es with
 | nil=>intro a _ _;simp;omega
 | cons p es ih=>
   intro a hp hm
   obtain ⟨x,hx,h1,h2⟩:=hm p (by simp)
   obtain ⟨q1,q2⟩:=List.pairwise_cons.1 hp
   have:=ih (x + 1) q2 (fun q hq=>by
    obtain ⟨y,hy,h3,h4⟩:=hm q (by simp [hq])
    have:=q1 q hq
    rw [hx,hy] at this
    exact ⟨y,hy,by simp [Lit.before] at this;omega,h4⟩)
   simp only [List.length_cons]
   omega
theorem ownsMap_keys {R:Value -> Option (DataW Unit × List MemPlace)} {w:World} {b n:Nat} (h:w.ownsMap Tryz.prog 26 R b n D):∃ es,D = .map es /\ es.Pairwise (fun p q=>p.1.before q.1 = true) /\ ∀ p ∈ es,∃ x:Int,p.1 = .int .u32 x /\ 0 <= x /\ x < 4294967296:=by
 obtain ⟨es,clock,_,F,_,rfl⟩:=h
 refine ⟨_,rfl,Maps.sorted_sorted keyedU.one _ (Maps.fit_keys F) (Maps.fit_apart keyedU F),fun p hp=>?_⟩
 obtain ⟨x,hx,rfl⟩:=List.mem_map.1 (mem_sorted.1 hp)
 obtain ⟨y,hy⟩:=F.reads x hx
 rw [WideElems.rg_of hy]
 obtain ⟨z,_,h2,h3⟩:=Maps.keyOf_int_inv Tryz.underlying26 (WideElems.rd_key hy)
 refine ⟨z,h2,?_⟩
 have:=h3
 simp [Lit.wf,IntKind.min,IntKind.max,IntKind.signed,IntKind.bits] at this
 omega
theorem ownsMap_tight {R:Value -> Option (DataW Unit × List MemPlace)} {w:World} {b n:Nat} (h:w.ownsMap Tryz.prog 26 R b n D):∃ m,m <= 4294967296 /\ w.ownsMap Tryz.prog 26 R b m D /\ Maps.size D = m:=by
 obtain ⟨L,hL,hp,hk⟩:=ownsMap_keys h
 have hl:=len_rising L 0 hp hk
 obtain ⟨es,clock,h1,F,h3,h4⟩:=h
 rw [hL] at h4
 have:L.length = es.size:=by
  injection h4 with h4
  rw [h4,length_sorted];simp
 refine ⟨es.size,by omega,⟨es,clock,h1,F,Nat.le_refl _,by rw [hL];exact h4⟩,?_⟩
 rw [hL];exact this
def tagsD (es:List Ev):DataW Unit:=es.foldl (fun D e=>D.put (.int .u32 (e.tag:Int)) (.agg [])) (.map [])
theorem tagsD_snoc (es:List Ev) (e:Ev):tagsD (es ++ [e]) = (tagsD es).put (.int .u32 (e.tag:Int)) (.agg []):=by unfold tagsD;rw [List.foldl_append];rfl
theorem tagsD_isMap (es:List Ev):Maps.IsMap (tagsD es):=by
 unfold tagsD
 have:∀ (es:List Ev) (D:DataW Unit),Maps.IsMap D -> Maps.IsMap (es.foldl (fun D e=>D.put (.int .u32 (e.tag:Int)) (.agg [])) D):=by
  intro es
  induction es with
  | nil=>intro D h;exact h
  | cons e es ih=>intro D h;exact ih _ (by obtain ⟨l,rfl⟩:=h;exact ⟨_,rfl⟩)
 exact this es _ ⟨_,rfl⟩
def hasTag (es:List Ev) (x:Int):Bool:=es.any (fun e=>decide ((e.tag:Int) = x))
theorem has_tagsD (es:List Ev) (x:Int):Maps.has (tagsD es) (.int .u32 x) = hasTag es x:=by
 have:∀ (n:Nat) (es:List Ev),es.length = n -> Maps.has (tagsD es) (.int .u32 x) = hasTag es x:=by
  intro n
  induction n with
  | zero=>intro es h;rw [List.eq_nil_of_length_eq_zero h];rfl
  | succ n ih=>
    intro es h
    have hne:es ≠ []:=by intro e;subst e;simp at h
    have hd:=List.dropLast_concat_getLast hne
    have hi:=ih es.dropLast (by simp [h])
    rw [<- hd,tagsD_snoc]
    unfold hasTag at hi ⊢
    rw [List.any_append,<- hi]
    by_cases hx:x = ((es.getLast hne).tag:Int)
    . rw [hx,Maps.has_put_same (tagsD_isMap _) (by simp [WideAt.IsKeyLit])];simp
    . rw [Maps.has_put_other (by simp;exact hx)]
      have:decide (((es.getLast hne).tag:Int) = x) = false:=by simp;omega
      simp [this]
 exact this _ es rfl
def tagN (ps:List Pane) (x:Int):Nat:=(ps.filter (fun p=>hasTag p.evs x)).length
theorem tagN_nil (x:Int):tagN [] x = 0:=rfl
theorem tagN_cons (p:Pane) (ps:List Pane) (x:Int):tagN (p :: ps) x = (if hasTag p.evs x then 1 else 0) + tagN ps x:=by
 unfold tagN;rw [List.filter_cons];split <;> simp <;> omega
theorem tagN_append (a b:List Pane) (x:Int):tagN (a ++ b) x = tagN a x + tagN b x:=by
 unfold tagN;rw [List.filter_append,List.length_append]
def TagsC (D:DataW Unit) (f:Int -> Nat):Prop:=(∀ x:Int,Maps.has D (.int .u32 x) = decide (0 < f x)) /\ ∀ x z,0 < f x -> D.atKey (.int .u32 x) z = .lit (.int .i64 (f x:Int))
theorem TagsC.congr {g:Int -> Nat} (h:TagsC D f) (hf:∀ x,f x = g x):TagsC D g:=by
 have:f = g:=funext hf
 rw [<- this];exact h
theorem TagsC.empty:TagsC (.map []) (fun _=>0):=⟨fun _=>rfl,fun _ _ h=>absurd h (Nat.lt_irrefl 0)⟩
theorem atKey_none (hm:Maps.IsMap D) {k:Lit} (h:Maps.has D k = false) (z:DataW Unit):D.atKey k z = z:=by
 obtain ⟨l,rfl⟩:=hm
 simp only [Maps.has,List.any_eq_false] at h
 simp only [DataW.atKey]
 have:l.find? (fun p=>p.1.sameKey k) = none:=List.find?_eq_none.2 (fun p hp=>h p hp)
 rw [this]
theorem TagsC.at (h:TagsC D f) (hm:Maps.IsMap D) (x:Int):D.atKey (.int .u32 x) (.lit (.int .i64 0)) = .lit (.int .i64 (f x:Int)):=by
 by_cases hx:0 < f x
 . exact h.2 x _ hx
 . have h0:f x = 0:=by omega
   rw [atKey_none hm (by rw [h.1,h0];rfl),h0];rfl
theorem TagsC.put (h:TagsC D f) (hm:Maps.IsMap D) (x:Int) (n:Nat) (hn:0 < n):TagsC (D.put (.int .u32 x) (.lit (.int .i64 (n:Int)))) (fun y=>if y = x then n else f y):=by
 refine ⟨fun y=>?_,fun y z hy=>?_⟩
 . by_cases hy:y = x
   . subst hy;rw [Maps.has_put_same hm (by simp [WideAt.IsKeyLit])];simp [hn]
   . rw [Maps.has_put_other (by simp;exact hy),h.1];simp only [if_neg hy]
 . by_cases hyx:y = x
   . subst hyx;rw [Maps.atKey_put_same hm (by simp [WideAt.IsKeyLit])];simp
   . simp only [if_neg hyx] at hy ⊢
     rw [Maps.atKey_put_other (by simp;exact hyx)]
     exact h.2 y z hy
end Go.Proofs.YtcfngdnmpogaoaaGreat
namespace Go.Proofs.YtcfngdnmpogaoaaGreat
open Go.RowKit Go.MuLone Go.Maps
def Cb (w:World) (k:Nat) (t:TypeId):Prop:=∃ c,w.heap[k]? = some (.cells c t (0,0))
def Mb (w:World) (k:Nat):Prop:=∃ es c,w.heap[k]? = some (.map es c)
theorem Cb.ne {w:World} {x y:Nat} {t u:TypeId} (h1:Cb w x t) (h2:Cb w y u) (ht:t ≠ u):x ≠ y:=by
 rintro rfl
 obtain ⟨c,h1⟩:=h1
 obtain ⟨d,h2⟩:=h2
 rw [h1] at h2
 simp only [Option.some.injEq,Obj.cells.injEq] at h2
 exact ht h2.2.1
theorem Cb.neM {w:World} {x y:Nat} {t:TypeId} (h1:Cb w x t) (h2:Mb w y):x ≠ y:=by
 rintro rfl
 obtain ⟨c,h1⟩:=h1
 obtain ⟨e,d,h2⟩:=h2
 rw [h1] at h2;cases h2
theorem Cb.of {w:World} {k:Nat} {t:TypeId} {c:Array Value} (h:w.heap[k]? = some (.cells c t (0,0))):Cb w k t:=⟨c,h⟩
theorem Mb.of {w:World} {P:Program} {k:TypeId} {R:Value -> Option (DataW Unit × List MemPlace)} {b n:Nat} {D:DataW Unit} (h:w.ownsMap P k R b n D):Mb w b:=by
 obtain ⟨es,c,h,_⟩:=h;exact ⟨es,c,h⟩
theorem Row.cb {w:World} {e:TypeId} {sz:Nat} {v:Value} {xs:List Value} (h:Row w e sz v xs) {k:Nat} (hk:v.ownBlock = some k):Cb w k e:=(h.blk_lt hk).2
theorem Cb.lt {w:World} {k:Nat} {t:TypeId} (h:Cb w k t):k < w.heap.size:=by obtain ⟨c,h⟩:=h;exact blkLt h
def TagM (w:World) (M:Nat) (es:List Ev):Prop:=∃ n,n <= 4294967296 /\ w.ownsMap Tryz.prog 26 (unitElem (H:=Unit)) M n (tagsD es)
theorem TagM.congr {w w':World} {M:Nat} {es:List Ev} (h:TagM w M es) (hb:w'.heap[M]? = w.heap[M]?):TagM w' M es:=by
 obtain ⟨n,hn,h⟩:=h;exact ⟨n,hn,mapBlock h hb⟩
theorem TagM.mb {w:World} {M:Nat} {es:List Ev} (h:TagM w M es):Mb w M:=by obtain ⟨n,_,h⟩:=h;exact Mb.of h
theorem TagM.lt {w:World} {M:Nat} {es:List Ev} (h:TagM w M es):M < w.heap.size:=by obtain ⟨n,_,h⟩:=h;exact h.lt
def TagC (w:World) (M:Nat) (f:Int -> Nat):Prop:=∃ n D,n <= 4294967296 /\ w.ownsMap Tryz.prog 26 (plainElem (H:=Unit) Tryz.prog 3) M n D /\ TagsC D f
theorem TagC.congr {w w':World} {M:Nat} {f:Int -> Nat} (h:TagC w M f) (hb:w'.heap[M]? = w.heap[M]?):TagC w' M f:=by
 obtain ⟨n,D,hn,h,hf⟩:=h;exact ⟨n,D,hn,mapBlock h hb,hf⟩
theorem TagC.mb {w:World} {M:Nat} {f:Int -> Nat} (h:TagC w M f):Mb w M:=by obtain ⟨n,D,_,h,_⟩:=h;exact Mb.of h
theorem TagC.lt {w:World} {M:Nat} {f:Int -> Nat} (h:TagC w M f):M < w.heap.size:=by obtain ⟨n,D,_,h,_⟩:=h;exact h.lt
structure PaneAt (w:World) (P M:Nat) (p:Pane):Prop where
 pane:w.heap[P]? = some (.cells (paneCells p.first p.last (cntV p.evs) (sumV p.evs) (loV p.evs) (hiV p.evs) M) 207 (0,0))
 tags:TagM w M p.evs
theorem PaneAt.congr {w w':World} {P M:Nat} {p:Pane} (h:PaneAt w P M p) (h1:w'.heap[P]? = w.heap[P]?) (h2:w'.heap[M]? = w.heap[M]?):PaneAt w' P M p:=
 ⟨h1.trans h.pane,h.tags.congr h2⟩
def evsOf (ps:List Pane):List Ev:=ps.flatMap Pane.evs
structure PartsAt (w:World) (b:Nat) (cv gv:Value) (ps:List Pane):Prop where
 tot:w.heap[b]? = some (.cells #[.int .i64 (cntV (evsOf ps)),.int .i64 (sumV (evsOf ps))] 214 (0,0))
 bnd:w.heap[b + 1]? = some (.cells #[cv,gv] 240 (0,0))
 stacks:∃ cm gg,Row w 261 4 cv (levels cm) /\ Row w 261 4 gv (levels gg) /\ gg.reverse ++ cm = ps.map Pane.span
 apart:∀ k,cv.ownBlock = some k -> gv.ownBlock ≠ some k
 tags:TagC w (b + 2) (tagN ps)
 all:w.heap[b + 3]? = some (.cells #[.iface 212 (.pointer (some ⟨b,0,none⟩)),.iface 215 (.pointer (some ⟨b + 1,0,none⟩)),.iface 218 (.map (some (b + 2)))] 210 (0,0))
def partsFoot (b:Nat) (cv gv:Value) (k:Nat):Prop:=(b <= k /\ k <= b + 3) \/ cv.ownBlock = some k \/ gv.ownBlock = some k
theorem PartsAt.congr {w w':World} {b:Nat} {cv gv:Value} {ps:List Pane} (h:PartsAt w b cv gv ps) (hb:∀ k,partsFoot b cv gv k -> w'.heap[k]? = w.heap[k]?):PartsAt w' b cv gv ps:=by
 obtain ⟨cm,gg,h1,h2,h3⟩:=h.stacks
 exact ⟨(hb b (.inl (by omega))).trans h.tot,(hb _ (.inl (by omega))).trans h.bnd,⟨cm,gg,h1.congr (fun k hk=>hb k (.inr (.inl hk))),h2.congr (fun k hk=>hb k (.inr (.inr hk))),h3⟩,h.apart,h.tags.congr (hb _ (.inl (by omega))),(hb _ (.inl (by omega))).trans h.all⟩
theorem PartsAt.kind {w:World} {b:Nat} {cv gv:Value} {ps:List Pane} (h:PartsAt w b cv gv ps) {k:Nat} (hk:partsFoot b cv gv k):(k = b /\ Cb w k 214) \/ (k = b + 1 /\ Cb w k 240) \/ (k = b + 2 /\ Mb w k) \/ (k = b + 3 /\ Cb w k 210) \/ Cb w k 261:=by
 obtain ⟨cm,gg,h1,h2,h3⟩:=h.stacks
 rcases hk with ⟨k1,k2⟩ | hk | hk
 . have:k = b \/ k = b + 1 \/ k = b + 2 \/ k = b + 3:=by omega
   rcases this with rfl | rfl | rfl | rfl
   . exact .inl ⟨rfl,Cb.of h.tot⟩
   . exact .inr (.inl ⟨rfl,Cb.of h.bnd⟩)
   . exact .inr (.inr (.inl ⟨rfl,h.tags.mb⟩))
   . exact .inr (.inr (.inr (.inl ⟨rfl,Cb.of h.all⟩)))
 . exact .inr (.inr (.inr (.inr (h1.cb hk))))
 . exact .inr (.inr (.inr (.inr (h2.cb hk))))
theorem PartsAt.lt {w:World} {b:Nat} {cv gv:Value} {ps:List Pane} (h:PartsAt w b cv gv ps) {k:Nat} (hk:partsFoot b cv gv k):k < w.heap.size:=by
 rcases h.kind hk with ⟨_,h⟩ | ⟨_,h⟩ | ⟨_,h⟩ | ⟨_,h⟩ | h
 . exact h.lt
 . exact h.lt
 . obtain ⟨e,c,h⟩:=h;exact blkLt h
 . exact h.lt
 . exact h.lt
structure RunD where
 R:Nat
 pv:Value
 Ps:List (Nat × Nat)
 b:Nat
 cv:Value
 gv:Value
def RunD.foot (d:RunD) (k:Nat):Prop:=k = d.R \/ d.pv.ownBlock = some k \/ (∃ p ∈ d.Ps,k = p.1 \/ k = p.2) \/ partsFoot d.b d.cv d.gv k
structure RunS where
 key:ByteArray
 ps:List Pane
 inside:Nat
 next:Int
structure RunAt (w:World) (d:RunD) (r:RunS):Prop where
 run:w.heap[d.R]? = some (.cells (runCells r.key d.pv (r.inside:Int) r.next (.slice (some ⟨d.b + 3,0,none⟩) 3 3)) 178 (0,0))
 panes:Row w 208 1 d.pv (d.Ps.map fun p=>.pointer (some ⟨p.1,0,none⟩))
 len:d.Ps.length = r.ps.length
 each:∀ (i:Nat) P M p,d.Ps[i]? = some (P,M) -> r.ps[i]? = some p -> PaneAt w P M p
 nodP:(d.Ps.map Prod.fst).Nodup
 nodM:(d.Ps.map Prod.snd).Nodup
 tcM:∀ p ∈ d.Ps,p.2 ≠ d.b + 2
 ins:r.inside <= r.ps.length
 parts:PartsAt w d.b d.cv d.gv (r.ps.take r.inside)
theorem RunAt.at {w:World} {d:RunD} {r:RunS} (h:RunAt w d r) {q:Nat × Nat} (hq:q ∈ d.Ps):∃ p,PaneAt w q.1 q.2 p:=by
 obtain ⟨i,hi,rfl⟩:=List.mem_iff_getElem.1 hq
 have hi2:i < r.ps.length:=by rw [<- h.len];exact hi
 exact ⟨r.ps[i],h.each i _ _ _ (by simp [hi]) (by simp [hi2])⟩
theorem RunAt.congr {w w':World} {d:RunD} {r:RunS} (h:RunAt w d r) (hb:∀ k,d.foot k -> w'.heap[k]? = w.heap[k]?):RunAt w' d r:=
 ⟨(hb _ (.inl rfl)).trans h.run,h.panes.congr (fun k hk=>hb k (.inr (.inl hk))),h.len,
   fun i P M p h1 h2=>(h.each i P M p h1 h2).congr (hb P (.inr (.inr (.inl ⟨(P,M),List.mem_of_getElem? h1,.inl rfl⟩)))) (hb M (.inr (.inr (.inl ⟨(P,M),List.mem_of_getElem? h1,.inr rfl⟩)))),
   h.nodP,h.nodM,h.tcM,h.ins,h.parts.congr (fun k hk=>hb k (.inr (.inr (.inr hk))))⟩
theorem RunAt.lt {w:World} {d:RunD} {r:RunS} (h:RunAt w d r) {k:Nat} (hk:d.foot k):k < w.heap.size:=by
 rcases hk with rfl | hk | ⟨q,hq,hk⟩ | hk
 . exact blkLt h.run
 . exact (h.panes.blk_lt hk).1
 . obtain ⟨p,hp⟩:=h.at hq
   rcases hk with rfl | rfl
   . exact blkLt hp.pane
   . exact hp.tags.lt
 . exact h.parts.lt hk
theorem RunAt.kept {w w':World} {d:RunD} {r:RunS} {X:Nat -> Prop} (h:RunAt w d r) (hk:Kept X w w') (hX:∀ k,d.foot k -> ¬ X k):RunAt w' d r:=
 h.congr (fun k hf=>hk.block k (h.lt hf) (hX k hf))
def runKind (w:World) (k:Nat):Prop:=Mb w k \/ ∃ t,Cb w k t /\ (t = 178 \/ t = 208 \/ t = 207 \/ t = 214 \/ t = 240 \/ t = 210 \/ t = 261)
theorem RunAt.kinds {w:World} {d:RunD} {r:RunS} (h:RunAt w d r) {k:Nat} (hk:d.foot k):runKind w k:=by
 rcases hk with rfl | hk | ⟨q,hq,hk⟩ | hk
 . exact .inr ⟨_,Cb.of h.run,by simp⟩
 . exact .inr ⟨_,h.panes.cb hk,by simp⟩
 . obtain ⟨p,hp⟩:=h.at hq
   rcases hk with rfl | rfl
   . exact .inr ⟨_,Cb.of hp.pane,by simp⟩
   . exact .inl hp.tags.mb
 . rcases h.parts.kind hk with ⟨_,h⟩ | ⟨_,h⟩ | ⟨_,h⟩ | ⟨_,h⟩ | h
   . exact .inr ⟨_,h,by simp⟩
   . exact .inr ⟨_,h,by simp⟩
   . exact .inl h
   . exact .inr ⟨_,h,by simp⟩
   . exact .inr ⟨_,h,by simp⟩
theorem runKind.ne {w:World} {x y:Nat} {t:TypeId} (h:runKind w x) (hy:Cb w y t) (ht:t ≠ 178 /\ t ≠ 208 /\ t ≠ 207 /\ t ≠ 214 /\ t ≠ 240 /\ t ≠ 210 /\ t ≠ 261):x ≠ y:=by
 obtain ⟨t1,t2,t3,t4,t5,t6,t7⟩:=ht
 rcases h with h | ⟨u,h,hu⟩
 . exact fun e=>hy.neM h e.symm
 . refine h.ne hy ?_
   rintro rfl
   rcases hu with e | e | e | e | e | e | e
   . exact t1 e
   . exact t2 e
   . exact t3 e
   . exact t4 e
   . exact t5 e
   . exact t6 e
   . exact t7 e
end Go.Proofs.YtcfngdnmpogaoaaGreat
namespace Go.Proofs.YtcfngdnmpogaoaaGreat
open Go.RowKit Go.MuLone
end Go.Proofs.YtcfngdnmpogaoaaGreat
namespace Go.Proofs.YtcfngdnmpogaoaaGreat
open Go.RowKit Go.MuLone
variable {es:List Ev} {f:Int -> Nat} {left:Lit -> Bool} {x:Int}
set_option maxHeartbeats 3200000
set_option maxRecDepth 20000
theorem sameKey_u32 (x y:Int):(Lit.int .u32 y).sameKey (.int .u32 x) = decide (y = x):=by
 by_cases h:y = x
 . subst h;rw [WideAt.sameKey_self (by simp [WideAt.IsKeyLit])];simp
 . rw [Maps.sameKey_ne (by simp;exact h)];simp [h]
def cameN (f:Int -> Nat) (es:List Ev) (left:Lit -> Bool) (x:Int):Nat:=f x + if hasTag es x && !left (.int .u32 x) then 1 else 0
theorem cameN_step (hx:hasTag es x = true) (hl:left (.int .u32 x) = true) (y:Int):(if y = x then f x + 1 else cameN f es left y) = cameN f es (fun z=>left z && !z.sameKey (.int .u32 x)) y:=by
 unfold cameN
 by_cases h:y = x
 . subst h
   rw [if_pos rfl,hx];simp only [sameKey_u32];simp
 . rw [if_neg h];simp only [sameKey_u32];simp [h]
theorem cameN_left (hl:left (.int .u32 x) = true):cameN f es left x = f x:=by
 unfold cameN;rw [hl];simp
theorem lit_inj {X:DataW Unit} {a b:Int} (h1:X = .lit (.int .i64 a)) (h2:X = .lit (.int .i64 b)):a = b:=by
 rw [h1] at h2
 injection h2 with h2
 injection h2
structure EntLoop (w wr:World) (TM M:Nat) (f:Int -> Nat) (es:List Ev) (n:Nat) (left:Lit -> Bool) (cnt:Nat) (m:Nat) (D:DataW Unit):Prop where
 rg:wr.ranges Tryz.prog 26 (unitElem (H:=Unit)) M w.heap.size n (tagsD es) left cnt
 le:m <= 4294967296
 own:wr.ownsMap Tryz.prog 26 (plainElem (H:=Unit) Tryz.prog 3) TM m D
 tags:TagsC D (cameN f es left)
 has:∀ kl,left kl = true -> Maps.has (tagsD es) kl = true
 kept:Kept (fun k=>k = TM) w wr
theorem tags_enter_any (TM P M:Nat) (p:Pane) (f:Int -> Nat) (w:World) (hp:PaneAt w P M p) (hT:TagC w TM f) (hMT:M ≠ TM) (hf:∀ x,f x < 4611686018427387904) :
 Calls Tryz.prog 213 #[.map (some TM),.pointer (some ⟨P,0,none⟩)] w fun e w'=>e = .returned (.tuple #[]) /\ TagC w' TM (fun x=>f x + if hasTag p.evs x then 1 else 0) /\ Kept (fun k=>k = TM) w w':=by
 obtain ⟨-,-,-,-,-,-,c6,-⟩:=paneAt hp.pane
 obtain ⟨n,hn,hM⟩:=hp.tags
 have hTs:=hT.lt
 have hMs:=hM.lt
 obtain ⟨m0,D0,hm0,hT0,hC0⟩:=hT
 have Hf:=hid hf
 clear hf hp
 go_enter Tryz.func213,Tryz.ntmps213
 go_wp2_with (first | (at_range;refine wpList_range_own _ rfl _ 205 rfl 26 97 keyedU Tryz.underlying205 _ M n _ rfl hM ?_;intro w0 hrg0 hg0 hs0))
 go_frame
 have HS:Hid (EntLoop w w0 TM M f p.evs n (Maps.has (tagsD p.evs)) (Maps.size (tagsD p.evs)) m0 D0):=by
  refine ⟨hrg0,hm0,hT0.kept hg0 (by simp),hC0.congr (fun x=>?_),fun _ h=>h,(Kept.refl _ w).step (Kept.ofGrown hg0) (by simp)⟩
  unfold cameN
  rw [has_tagsD]
  cases hasTag p.evs x <;> simp
 clear hrg0 hg0 hs0 hT0 hC0 hM c6
 go_loopw [4] (fun _ wr=>∃ left cnt m D,EntLoop w wr TM M f p.evs n left cnt m D) (fun _ wr=>wr.rangeLeft M w.heap.size)
 case atStart=>exact ⟨_,_,_,_,HS.out⟩
 case round=>
  obtain ⟨left,cnt,m,D,hL⟩:=hrel
  have HL:=hid hL
  have hrg:=hL.rg
  clear hL
  go_wp2_with (first | (at_next;refine wpList_next_ranges _ rfl _ rfl 26 keyedU _ (fun x:Int=>.int .u32 x) (fun _:Unit=>.agg #[]) (fun key kl h=>by obtain ⟨x,h1,_⟩:=Maps.keyOf_int_inv Tryz.underlying26 h;exact ⟨x,h1⟩) (fun v y h=>⟨(),(unitElem_inv h).1⟩) M w.heap.size n _ _ _ rfl hrg ?_ ?_))
  . intro hc hl
    go_wp2
    go_end0
    refine ⟨rfl,⟨m,D,HL.out.le,HL.out.own,HL.out.tags.congr (fun x=>?_)⟩,HL.out.kept⟩
    unfold cameN
    rw [hl];simp
  . intro x c kl y w1 cnt1 hkey hlk hv hat hrg1 hlt hg1 hs1 hen
    obtain ⟨x',hx,hx2,-⟩:=Maps.keyOf_int_inv Tryz.underlying26 hkey
    injection hx with _ a1
    subst a1
    subst hx2
    have hT1:=HL.out.own.kept hg1 (by simp;omega)
    have hhas:hasTag p.evs x = true:=by rw [<- has_tagsD];exact HL.out.has _ hlk
    have hat0:=HL.out.tags.at hT1.isMap x
    rw [cameN_left hlk] at hat0
    have hfx:=Hf.out x
    obtain ⟨F,HF⟩:∃ F,Hid (f x = F):=⟨_,rfl⟩
    rw [HF.out] at hfx hat0
    have hwf:(Lit.int .i64 ((F:Int) + 1)).wf = true:=WalkArith.wf_i64 ⟨by omega,by omega⟩
    have hml:m < maxLen:=by have:=HL.out.le;simp only [maxLen];omega
    go_wp2_with (first
     | (at_lookup;refine wpList_lookup_own_int _ rfl _ _ 218 rfl 26 3 .i64 keyedU Tryz.underlying218 Tryz.underlying3 (zeroInt _) TM m _ rfl hT1 _ _ rfl hkey ?_;intro n0 hn0 hwn;have hn1:n0 = (F:Int):=lit_inj hn0 hat0;subst hn1)
     | (at_mapUpdate;refine wpList_mapUpdate_own _ rfl _ _ _ 218 rfl 26 3 keyedU Tryz.underlying218 _ TM m _ rfl hT1 hml _ _ _ rfl rfl hkey _ [] (plainElem_int Tryz.underlying3 hwf) ?_;intro w2 hT2 hg2))
    have hrg2:=hrg1.kept hg2 (by simp;omega) (by simp;omega)
    obtain ⟨m2,hm2,hT3,-⟩:=ownsMap_tight hT2
    have hC2:TagsC (D.put (.int .u32 x) (.lit (.int .i64 ((F + 1:Nat):Int)))) (cameN f p.evs (fun z=>left z && !z.sameKey (.int .u32 x))):=(HL.out.tags.put hT1.isMap x (F + 1) (by omega)).congr (fun y=>by rw [<- HF.out];exact cameN_step hhas hlk y)
    have HN:Hid (EntLoop w w2 TM M f p.evs n (fun z=>left z && !z.sameKey (.int .u32 x)) cnt1 m2 (D.put (.int .u32 x) (.lit (.int .i64 ((F + 1:Nat):Int))))):=
     ⟨hrg2,hm2,hT3,hC2,fun kl hk=>HL.out.has kl (by simp only [Bool.and_eq_true] at hk;exact hk.1),(HL.out.kept.step (Kept.ofGrown hg1) (by simp;omega)).step (Kept.ofGrown hg2) (by simp;omega)⟩
    clear hT1 hT2 hT3 hC2 hrg1 hg1 hg2 hen
    go_roundw
    case rel=>exact ⟨_,_,_,_,HN.out⟩
    case measure=>rw [HN.out.rg.left_eq,HL.out.rg.left_eq];omega
theorem TagsC.gone {D:DataW Unit} (h:TagsC D f) (x:Int) (d:DataW Unit):TagsC ((D.put (.int .u32 x) d).del (.int .u32 x)) (fun y=>if y = x then 0 else f y):=by
 refine ⟨fun y=>?_,fun y z hy=>?_⟩
 . by_cases hy:y = x
   . subst hy;rw [Maps.has_del_same];simp
   . rw [Maps.has_del_other (by simp;exact hy),Maps.has_put_other (by simp;exact hy),h.1];simp only [if_neg hy]
 . by_cases hyx:y = x
   . subst hyx;simp at hy
   . simp only [if_neg hyx] at hy ⊢
     rw [Maps.atKey_del_other (by simp;exact hyx),Maps.atKey_put_other (by simp;exact hyx)]
     exact h.2 y z hy
def wentN (f:Int -> Nat) (es:List Ev) (left:Lit -> Bool) (x:Int):Nat:=f x - if hasTag es x && !left (.int .u32 x) then 1 else 0
theorem wentN_step (hx:hasTag es x = true) (_hl:left (.int .u32 x) = true) (y:Int):(if y = x then f x - 1 else wentN f es left y) = wentN f es (fun z=>left z && !z.sameKey (.int .u32 x)) y:=by
 unfold wentN
 by_cases h:y = x
 . subst h
   rw [if_pos rfl,hx];simp only [sameKey_u32];simp
 . rw [if_neg h];simp only [sameKey_u32];simp [h]
theorem wentN_left (hl:left (.int .u32 x) = true):wentN f es left x = f x:=by
 unfold wentN;rw [hl];simp
structure LvLoop (w wr:World) (TM M:Nat) (f:Int -> Nat) (es:List Ev) (n:Nat) (left:Lit -> Bool) (cnt:Nat) (m:Nat) (D:DataW Unit):Prop where
 rg:wr.ranges Tryz.prog 26 (unitElem (H:=Unit)) M w.heap.size n (tagsD es) left cnt
 le:m <= 4294967296
 own:wr.ownsMap Tryz.prog 26 (plainElem (H:=Unit) Tryz.prog 3) TM m D
 tags:TagsC D (wentN f es left)
 has:∀ kl,left kl = true -> Maps.has (tagsD es) kl = true
 kept:Kept (fun k=>k = TM) w wr
theorem tags_leave_any (TM P M:Nat) (p:Pane) (f:Int -> Nat) (w:World) (hp:PaneAt w P M p) (hT:TagC w TM f) (hMT:M ≠ TM) (hf:∀ x,f x < 4611686018427387904) (hg:∀ x,hasTag p.evs x = true -> 0 < f x) :
 Calls Tryz.prog 214 #[.map (some TM),.pointer (some ⟨P,0,none⟩)] w fun e w'=>e = .returned (.tuple #[]) /\ TagC w' TM (fun x=>f x - if hasTag p.evs x then 1 else 0) /\ Kept (fun k=>k = TM) w w':=by
 obtain ⟨-,-,-,-,-,-,c6,-⟩:=paneAt hp.pane
 obtain ⟨n,hn,hM⟩:=hp.tags
 have hTs:=hT.lt
 have hMs:=hM.lt
 obtain ⟨m0,D0,hm0,hT0,hC0⟩:=hT
 have Hf:=hid hf
 have Hg:=hid hg
 clear hf hp hg
 go_enter Tryz.func214,Tryz.ntmps214
 go_wp2_with (first | (at_range;refine wpList_range_own _ rfl _ 205 rfl 26 97 keyedU Tryz.underlying205 _ M n _ rfl hM ?_;intro w0 hrg0 hg0 hs0))
 go_frame
 have HS:Hid (LvLoop w w0 TM M f p.evs n (Maps.has (tagsD p.evs)) (Maps.size (tagsD p.evs)) m0 D0):=by
  refine ⟨hrg0,hm0,hT0.kept hg0 (by simp),hC0.congr (fun x=>?_),fun _ h=>h,(Kept.refl _ w).step (Kept.ofGrown hg0) (by simp)⟩
  unfold wentN
  rw [has_tagsD]
  cases hasTag p.evs x <;> simp
 clear hrg0 hg0 hs0 hT0 hC0 hM c6
 go_loopw [4] (fun _ wr=>∃ left cnt m D,LvLoop w wr TM M f p.evs n left cnt m D) (fun _ wr=>wr.rangeLeft M w.heap.size)
 case atStart=>exact ⟨_,_,_,_,HS.out⟩
 case round=>
  obtain ⟨left,cnt,m,D,hL⟩:=hrel
  have HL:=hid hL
  have hrg:=hL.rg
  clear hL
  go_wp2_with (first | (at_next;refine wpList_next_ranges _ rfl _ rfl 26 keyedU _ (fun x:Int=>.int .u32 x) (fun _:Unit=>.agg #[]) (fun key kl h=>by obtain ⟨x,h1,_⟩:=Maps.keyOf_int_inv Tryz.underlying26 h;exact ⟨x,h1⟩) (fun v y h=>⟨(),(unitElem_inv h).1⟩) M w.heap.size n _ _ _ rfl hrg ?_ ?_))
  . intro hc hl
    go_wp2
    go_end0
    refine ⟨rfl,⟨m,D,HL.out.le,HL.out.own,HL.out.tags.congr (fun x=>?_)⟩,HL.out.kept⟩
    unfold wentN
    rw [hl];simp
  . intro x c kl y w1 cnt1 hkey hlk hv hat hrg1 hlt hg1 hs1 hen
    obtain ⟨x',hx,hx2,-⟩:=Maps.keyOf_int_inv Tryz.underlying26 hkey
    injection hx with _ a1
    subst a1
    subst hx2
    have hT1:=HL.out.own.kept hg1 (by simp;omega)
    have hhas:hasTag p.evs x = true:=by rw [<- has_tagsD];exact HL.out.has _ hlk
    have hat0:=HL.out.tags.at hT1.isMap x
    rw [wentN_left hlk] at hat0
    have hfx:=Hf.out x
    have hgx:=Hg.out x hhas
    obtain ⟨F,HF⟩:∃ F,Hid (f x = F + 1):=⟨f x - 1,by show _ = _;omega⟩
    rw [HF.out] at hfx hat0
    have hcs:((F + 1:Nat):Int) = (F:Int) + 1:=by omega
    rw [hcs] at hat0
    have hfb:F < 4611686018427387904:=by omega
    have hwr:wrap64 ((F:Int) + 1 - 1) = (F:Int):=by unfold wrap64;omega
    have hwr2:IntKind.i64.wrap ((F:Int) + 1 - 1) = (F:Int):=by rw [IntKind.wrap_i64];omega
    have hF2:(F:Int) + 1 - 1 = (F:Int):=by omega
    clear hcs hfx
    have hwf:(Lit.int .i64 (F:Int)).wf = true:=WalkArith.wf_i64 ⟨by omega,by omega⟩
    have hml:m < maxLen:=by have:=HL.out.le;simp only [maxLen];omega
    have hat2:(D.put (.int .u32 x) (.lit (.int .i64 (F:Int)))).atKey (.int .u32 x) (.lit (.int .i64 0)) = .lit (.int .i64 (F:Int)):=by rw [Maps.atKey_put_same hT1.isMap (by simp [WideAt.IsKeyLit])]
    by_cases hF0:F = 0
    . subst hF0
      go_wp2_with (first
       | (at_lookup;refine wpList_lookup_own_int _ rfl _ _ 218 rfl 26 3 .i64 keyedU Tryz.underlying218 Tryz.underlying3 (zeroInt _) TM m _ rfl hT1 _ _ rfl hkey ?_;intro n0 hn0 hwn;have hn1:n0 = ((0:Nat):Int) + 1:=lit_inj hn0 hat0;subst hn1)
       | (at_mapUpdate;refine wpList_mapUpdate_own _ rfl _ _ _ 218 rfl 26 3 keyedU Tryz.underlying218 _ TM m _ rfl hT1 hml _ _ _ rfl rfl hkey _ [] (plainElem_int Tryz.underlying3 hwf) ?_;intro w2 hT2 hg2)
       | (at_lookup;refine wpList_lookup_own_int _ rfl _ _ 218 rfl 26 3 .i64 keyedU Tryz.underlying218 Tryz.underlying3 (zeroInt _) TM (m + 1) _ rfl hT2 _ _ rfl hkey ?_;intro m1 hm1 hwm;have hm0:m1 = ((0:Nat):Int):=lit_inj hm1 hat2;subst hm0)
       | (at_delete;refine wpList_delete_own _ rfl _ _ 218 26 rfl 3 keyedU Tryz.underlying218 _ TM (m + 1) _ rfl hT2 _ _ rfl hkey ?_;intro w4 hT4 hturn))
      have hg4:=hturn.grown
      have hrg2:=(hrg1.kept hg2 (by simp;omega) (by simp;omega)).kept hg4 (by simp;omega) (by simp;omega)
      obtain ⟨m2,hm2,hT5,-⟩:=ownsMap_tight hT4
      have HN:Hid (LvLoop w w4 TM M f p.evs n (fun z=>left z && !z.sameKey (.int .u32 x)) cnt1 m2 ((D.put (.int .u32 x) (.lit (.int .i64 ((0:Nat):Int)))).del (.int .u32 x))):=
       ⟨hrg2,hm2,hT5,(HL.out.tags.gone x _).congr (fun y=>by have:=wentN_step (f:=f) hhas hlk y;rw [HF.out] at this;exact this),fun kl hk=>HL.out.has kl (by simp only [Bool.and_eq_true] at hk;exact hk.1),((HL.out.kept.step (Kept.ofGrown hg1) (by simp;omega)).step (Kept.ofGrown hg2) (by simp;omega)).step (Kept.ofGrown hg4) (by simp;omega)⟩
      clear hT1 hT2 hT4 hT5 hrg1 hg1 hg2 hg4 hen hturn
      go_roundw
      case rel=>exact ⟨_,_,_,_,HN.out⟩
      case measure=>rw [HN.out.rg.left_eq,HL.out.rg.left_eq];omega
    . have hFi:¬ (F:Int) = 0:=by omega
      go_wp2_with (first
       | (at_lookup;refine wpList_lookup_own_int _ rfl _ _ 218 rfl 26 3 .i64 keyedU Tryz.underlying218 Tryz.underlying3 (zeroInt _) TM m _ rfl hT1 _ _ rfl hkey ?_;intro n0 hn0 hwn;have hn1:n0 = (F:Int) + 1:=lit_inj hn0 hat0;subst hn1;clear hn0 hwn)
       | (at_mapUpdate;refine wpList_mapUpdate_own _ rfl _ _ _ 218 rfl 26 3 keyedU Tryz.underlying218 _ TM m _ rfl hT1 hml _ _ _ rfl rfl hkey _ [] (plainElem_int Tryz.underlying3 hwf) ?_;intro w2 hT2 hg2;have HT1:Hid (w1.ownsMap Tryz.prog 26 (plainElem (H:=Unit) Tryz.prog 3) TM m D):=hT1;clear hT1)
       | (at_lookup;refine wpList_lookup_own_int _ rfl _ _ 218 rfl 26 3 .i64 keyedU Tryz.underlying218 Tryz.underlying3 (zeroInt _) TM (m + 1) _ rfl hT2 _ _ rfl hkey ?_;intro m1 hm1 hwm;have hm0:m1 = (F:Int):=lit_inj hm1 hat2;subst hm0;clear hm1 hwm))
      have hrg2:=hrg1.kept hg2 (by simp;omega) (by simp;omega)
      obtain ⟨m2,hm2,hT5,-⟩:=ownsMap_tight hT2
      have HN:Hid (LvLoop w w2 TM M f p.evs n (fun z=>left z && !z.sameKey (.int .u32 x)) cnt1 m2 (D.put (.int .u32 x) (.lit (.int .i64 (F:Int))))):=
       ⟨hrg2,hm2,hT5,(HL.out.tags.put HT1.out.isMap x F (by omega)).congr (fun y=>by have:=wentN_step (f:=f) hhas hlk y;rw [HF.out] at this;exact this),fun kl hk=>HL.out.has kl (by simp only [Bool.and_eq_true] at hk;exact hk.1),(HL.out.kept.step (Kept.ofGrown hg1) (by simp;omega)).step (Kept.ofGrown hg2) (by simp;omega)⟩
      clear hT2 hT5 hrg1 hg1 hg2 hen
      go_roundw
      case rel=>exact ⟨_,_,_,_,HN.out⟩
      case measure=>rw [HN.out.rg.left_eq,HL.out.rg.left_eq];omega
end Go.Proofs.YtcfngdnmpogaoaaGreat
namespace Go.Proofs.YtcfngdnmpogaoaaGreat
open Go.RowKit Go.MuLone
theorem whole_nil (a:Option Addr) (c:Nat) (w:World) :
 Calls Tryz.prog 150 #[.slice a 0 c] w fun e w'=>e = .returned (.agg #[.int .i64 9223372036854775807,.int .i64 (-9223372036854775808)]) /\ Below w.heap.size w w':=by
 go_enter Tryz.func150,Tryz.ntmps150
 go_wp2_with fail
 refine (noValues_any _).mono ?_
 rintro e W ⟨rfl,hb⟩
 have h1:=blkBelow (heap_alloc_new w (.cells #[.int .i64 0,.int .i64 0] 204)) hb
 obtain ⟨x0,x1,xf,-⟩:=cells2At h1
 have hB:Hid (Below w.heap.size w W):=((Below.refl _ w).alloc (Nat.le_refl _) _).trans (hb.mono (by simp))
 clear hb
 go_wp2
 have h2:=cells2Put (u:=.int .i64 9223372036854775807) (v:=.int .i64 (-9223372036854775808)) h1
 have hB2:=(hB.out.setCell (p:=⟨w.heap.size,0,none⟩) (Nat.le_refl _) (.int .i64 9223372036854775807)).setCell (p:=⟨w.heap.size,1,none⟩) (Nat.le_refl _) (.int .i64 (-9223372036854775808))
 clear x0 x1 xf
 generalize (W.setCell ⟨w.heap.size,0,none⟩ (.int .i64 9223372036854775807)).setCell ⟨w.heap.size,1,none⟩ (.int .i64 (-9223372036854775808)) = W2 at *
 obtain ⟨x0,x1,xf,-⟩:=cells2At h2
 exact bodyPost_ret (v:=.agg #[.int .i64 9223372036854775807,.int .i64 (-9223372036854775808)]) (by simp [results,Tryz.results150,go_sem,x0,x1]) rfl ⟨rfl,hB2⟩
theorem enterWhole:∀ (vs:Array Value) (w:World),(callFunc 150 vs).run Tryz.prog w = .ok (.enter 150 vs) w:=enters_of Tryz.func150 (by kernel_rfl) rfl
theorem enterJoined:∀ (vs:Array Value) (w:World),(callFunc 151 vs).run Tryz.prog w = .ok (.enter 151 vs) w:=enters_of Tryz.func151 (by kernel_rfl) rfl
theorem infoLv:(Tryz.prog.info? 261).map (fun i=>(i.zero,i.size,i.bytes)) = some (some (.agg #[.int .i64 0,.int .i64 0,.int .i64 0,.int .i64 0]),4,32):=by kernel_rfl
theorem row_new (w:World) (xs:List Value) (e:TypeId):∀ (j:Nat) (u:Value),xs[j]? = some u -> (w.alloc (.cells xs.toArray e)).cell? ((⟨w.heap.size,0,none⟩:Addr).add j) = some u:=by
 intro j u hu
 rw [Addr.add_lit,Nat.zero_add]
 exact blkCell (heap_alloc_new w _) (by simpa using hu)
end Go.Proofs.YtcfngdnmpogaoaaGreat
