import Derived.Test.YtcfngdnmpogaoaaGreatTkU05
import Derived.Test.YtcfngdnmpogaoaaGreatTkU16
import Derived.Sort.Grow
import Derived.Test.YtcfngdnmpogaoaaGreatTkU15
import Derived.Shelf.GgSortFunc.InsertionK
import Derived.Test.YtcfngdnmpogaoaaGreatTkU23
import Derived.Test.YtcfngdnmpogaoaaGreatTkU21
namespace Go.Proofs.YtcfngdnmpogaoaaGreat
open Go.RowKit Go.MuLone
theorem info28:(Tryz.prog.info? 28).map (fun i=>(i.zero,i.size,i.bytes))=some (some (.agg #[.int .i64 0,.string ⟨#[]⟩,.int .i64 0,.int .i64 0,.int .u32 0]),5,48):=by kernel_rfl
theorem item_src (w:World) (e:Ev):Src Tryz.prog 5 49 (.slice (some ⟨w.heap.size,0,none⟩) 1 1) 1 (evCells e) (w.alloc (.cells #[.int .i64 1,.string e.key,.int .i64 e.t,.int .i64 e.v,.int .u32 (e.tag:Int)] 28)):=
 Src.ofSlice _ Tryz.underlying49 ⟨w.heap.size,0,none⟩ 1 1 _ rfl (fun j u hu=>by
  rw [Addr.add_lit,cell_of_row _ _ _ _ _ _ (heap_alloc_new w _)]
  rw [Nat.zero_add];simpa [evCells] using hu) (fun u hu=>by simp only [evCells,List.mem_cons,List.not_mem_nil,or_false] at hu;rcases hu with rfl | rfl | rfl | rfl | rfl <;> rfl)
theorem FlowOn.up {w w' : World} {g : Nat} {c : Cf} {sp : Sp} {rs : List (List UInt8)} {F : Nat → Prop} {T : Option Int} (h : FlowOn w' g c sp rs F T) : FlowOn w' g c sp rs (Grown F w) T := h.mono (fun _ hk => .inl hk)
set_option maxHeartbeats 1600000
set_option maxRecDepth 20000
def cmpS (x y:ByteArray):Int:=if Op.bytesLess x.toList y.toList then -1 else if Op.bytesLess y.toList x.toList then 1 else 0
theorem isNaNS (x:ByteArray) (w:World):Calls Tryz.prog 141 #[.string x] w fun e w'=>e=.returned (.bool false)/\w'=w:=by
 go_enter Tryz.func141,Tryz.ntmps141
 go_wp2
 go_ret
 exact ⟨rfl,rfl⟩
theorem cmpS_any (x y:ByteArray) (w:World):Calls Tryz.prog 109 #[.string x,.string y] w fun e w'=>e=.returned (.int .i64 (cmpS x y))/\w'=w:=by
 have n0:=fun x=>isNaNS x
 unfold cmpS
 by_cases h1:Op.bytesLess x.toList y.toList=true
 . rw [if_pos h1]
   go_enter Tryz.func109,Tryz.ntmps109
   go_wp2_with (go_at_call 141;refine (n0 _ _).mono ?_;rintro e w' ⟨rfl,rfl⟩)
   go_ret
   exact ⟨rfl,rfl⟩
 . rw [if_neg h1]
   have h1:Op.bytesLess x.toList y.toList=false:=by simpa using h1
   by_cases h2:Op.bytesLess y.toList x.toList=true
   . rw [if_pos h2]
     have h3:(x.toList == y.toList)=false:=by
      cases h4:(x.toList == y.toList) with
      | false=>rfl
      | true=>
        have h5:x.toList=y.toList:=by simpa using h4
        rw [h5,bl_irrefl] at h2;cases h2
     go_enter Tryz.func109,Tryz.ntmps109
     go_wp2_with (go_at_call 141;refine (n0 _ _).mono ?_;rintro e w' ⟨rfl,rfl⟩)
     go_ret
     exact ⟨rfl,rfl⟩
   . rw [if_neg h2]
     have h2:Op.bytesLess y.toList x.toList=false:=by simpa using h2
     have h3:(x.toList == y.toList)=true:=by
      have:=bl_total _ _ h1 h2
      simpa using this
     go_enter Tryz.func109,Tryz.ntmps109
     go_wp2_with (go_at_call 141;refine (n0 _ _).mono ?_;rintro e w' ⟨rfl,rfl⟩)
     go_ret
     exact ⟨rfl,rfl⟩
def cmpN (k:ByteArray) (s:Int) (k':ByteArray) (s':Int):Int:=orI (cmpI s s') (cmpS k k')
theorem cmpN_lt (x y:Win):cmpN x.key x.start y.key y.start < 0 ↔ ltW x y:=by
 rw [ltW_iff]
 unfold cmpN cmpS orI
 rcases cmpI_cases x.start y.start with ⟨h,e⟩ | ⟨h,e⟩ | ⟨h,e⟩
 . rw [e,if_neg (by decide)]
   exact ⟨fun _=>.inl h,fun _=>by decide⟩
 . rw [e,if_pos rfl]
   by_cases h1:Op.bytesLess x.key.toList y.key.toList=true
   . rw [if_pos h1]
     exact ⟨fun _=>.inr ⟨h,h1⟩,fun _=>by decide⟩
   . rw [if_neg h1]
     constructor
     . intro h2
       split at h2
       . exact absurd h2 (by decide)
       . exact absurd h2 (by decide)
     . rintro (h2 | ⟨_,h2⟩)
       . omega
       . exact absurd h2 h1
 . rw [e,if_neg (by decide)]
   constructor
   . intro h2;exact absurd h2 (by decide)
   . rintro (h2 | ⟨h2,_⟩)
     . omega
     . omega
theorem three_new (w:World) (a b o:Obj):(((w.alloc a).alloc b).drew).alloc o=Go.Sort.grow (w.drewN 1) #[a,b,o]:=by
 have e:w.heap++#[a,b,o]=((w.heap.push a).push b).push o:=by
  apply Array.ext'
  simp only [Array.toList_append,Array.toList_push,List.append_assoc]
  rfl
 unfold Go.Sort.grow
 show _={ w.drewN 1 with heap:=w.heap++#[a,b,o] }
 rw [e];rfl
def winA (k:ByteArray) (s c u l h:Int) (tv:Value):Array Value:=#[.string k,.int .i64 s,.int .i64 c,.int .i64 u,.int .i64 l,.int .i64 h,tv]
theorem winAt {w:World} {b:Nat} {k:ByteArray} {s c u l h:Int} {tv:Value} {T:TypeId} (H:w.heap[b]?=some (.cells (winA k s c u l h tv) T (0,0))):w.cell? ⟨b,0,none⟩=some (.string k)/\w.cell? ⟨b,1,none⟩=some (.int .i64 s):=⟨blkCell H (show (winA k s c u l h tv)[0]?=_ from rfl),blkCell H (show (winA k s c u l h tv)[1]?=_ from rfl)⟩
theorem byEnd_any (k:ByteArray) (s c u l h:Int) (tv:Value) (k':ByteArray) (s' c' u' l' h':Int) (tv':Value) (w:World) :
 Calls Tryz.prog 75 #[.agg (winA k s c u l h tv),.agg (winA k' s' c' u' l' h' tv')] w fun e w'=>e=.returned (.int .i64 (cmpN k s k' s'))/\∃ q os,w'=Go.Sort.grow (w.drewN q) os:=by
 obtain ⟨A,HA⟩:∃ A,Hid (cmpI s s'=A):=⟨_,rfl⟩
 obtain ⟨B,HB⟩:∃ B,Hid (cmpS k k'=B):=⟨_,rfl⟩
 obtain ⟨Z,HZ⟩:∃ Z,Hid (cmpN k s k' s'=Z):=⟨_,rfl⟩
 rw [HZ.out]
 have q1:∀ W,Calls Tryz.prog 108 #[.int .i64 s,.int .i64 s'] W fun e w'=>e=.returned (.int .i64 A)/\w'=W:=fun W=>by have:=cmp64_any s s' W;rw [HA.out] at this;exact this
 have q2:∀ W,Calls Tryz.prog 109 #[.string k,.string k'] W fun e w'=>e=.returned (.int .i64 B)/\w'=W:=fun W=>by have:=cmpS_any k k' W;rw [HB.out] at this;exact this
 obtain ⟨X,HX⟩:∃ X,Hid (winA k s c u l h tv=X):=⟨_,rfl⟩
 obtain ⟨Y,HY⟩:∃ Y,Hid (winA k' s' c' u' l' h' tv'=Y):=⟨_,rfl⟩
 rw [HX.out,HY.out]
 go_enter Tryz.func75,Tryz.ntmps75
 go_upto_region 1 with fail
 refine wp_region_still_tail 10 (by kernel_rfl) (by kernel_rfl) ?_
 simp only [List.take_succ_cons,List.take_zero,List.drop_succ_cons,List.drop_zero]
 obtain ⟨hx,hy⟩:=two_new w (.cells X 70) (.cells Y 70)
 have hB1:Hid (∀ o,∃ q os,(((w.alloc (.cells X 70)).alloc (.cells Y 70)).drew).alloc o=Go.Sort.grow (w.drewN q) os):=fun o=>⟨1,#[.cells X 70,.cells Y 70,o],three_new w _ _ o⟩
 generalize (w.alloc (.cells X 70)).alloc (.cells Y 70)=W1 at *
 change wpStill Tryz.prog _ W1.drew (fun a'=>wpList Tryz.prog _ _ _ a' W1.drew) _ _
 have hx:W1.drew.heap[w.heap.size]?=some (.cells X 70 (0,0)):=hx
 have hy:W1.drew.heap[w.heap.size+1]?=some (.cells Y 70 (0,0)):=hy
 generalize W1.drew=W2 at *
 rw [<- HX.out] at hx
 rw [<- HY.out] at hy
 obtain ⟨x0,x1⟩:=winAt hx
 obtain ⟨y0,y1⟩:=winAt hy
 clear hx hy
 repeat still_step
 still_call (q1 _)
 repeat still_step
 still_call (q2 _)
 repeat still_step
 refine wpStill_nil ?_
 clear q1 q2 x0 x1 y0 y1
 go_wp2_with fail
 have z:=heap_alloc_new W2 (.cells #[.int .i64 A,.int .i64 B] 3)
 have hB2:Hid (∃ q os,W2.alloc (.cells #[.int .i64 A,.int .i64 B] 3)=Go.Sort.grow (w.drewN q) os):=hB1.out _
 refine (or2_any _ A B 2 _ (blkCell z rfl) (blkCell z rfl)).mono ?_
 rintro e W3 ⟨rfl,rfl⟩
 have hZ:orI A B=Z:=by rw [<- HZ.out,<- HA.out,<- HB.out];rfl
 rw [hZ]
 clear z hZ
 go_wp2
 go_ret
 exact ⟨rfl,hB2.out⟩
end Go.Proofs.YtcfngdnmpogaoaaGreat
namespace Go.Proofs.YtcfngdnmpogaoaaGreat
open Go.RowKit Go.MuLone Go.Sort
structure WinP where
 w:Win
 a:Option Addr
 n:Nat
 c:Nat
instance:Inhabited WinP:=⟨⟨⟨⟨#[]⟩,0,0,0,0,0,[]⟩,none,0,0⟩⟩
def WinP.x (p:WinP):WinX:=⟨p.w,.slice p.a p.n p.c⟩
def encW (p:WinP):List Value:=wxCells p.x
theorem encW_len (p:WinP):(encW p).length=7:=rfl
theorem row_slice {w:World} {e:TypeId} {sz:Nat} {v:Value} {xs:List Value} (h:Row w e sz v xs):∃ a n c,v=.slice a n c:=by
 rcases h with ⟨rfl,_⟩ | ⟨g,off,n,cap,_,rfl,_⟩
 . exact ⟨_,_,_,rfl⟩
 . exact ⟨_,_,_,rfl⟩
theorem wins_of {w:World}:∀ (xs:List WinX),(∀ x ∈ xs,∃ a n c,x.tv=.slice a n c)->∃ ps:List WinP,xs=ps.map WinP.x
 | [],_=>⟨[],rfl⟩
 | x :: xs,h=>by
   obtain ⟨ps,rfl⟩:=wins_of (w:=w) xs (fun y hy=>h y (List.mem_cons_of_mem _ hy))
   obtain ⟨a,n,c,ht⟩:=h x (List.mem_cons_self ..)
   refine ⟨⟨x.w,a,n,c⟩ :: ps,?_⟩
   rw [List.map_cons]
   obtain ⟨xw,xt⟩:=x
   simp only at ht
   subst ht;rfl
theorem flat_at (ps:List WinP) (t:Nat) (h:t < ps.length*7):((ps.map WinP.x).flatMap wxCells)[t]?=some ((flatK encW 7 ps.toArray)[t]!):=by
 have hj:t / 7 < ps.length:=by omega
 have hk:t % 7 < 7:=Nat.mod_lt _ (by decide)
 have ht:t / 7*7+t % 7=t:=by omega
 have h1:=winFlat (ps.map WinP.x) (t / 7) (t % 7) (ps[t / 7]).x (by rw [List.getElem?_map,List.getElem?_eq_getElem hj];rfl) hk
 rw [ht] at h1
 rw [h1,get_flatK _ _ _ _ (by simpa using h)]
 have h2:ps.toArray[t / 7]! = ps[t / 7]:=by
  rw [getElem!_pos ps.toArray (t / 7) (by simpa using hj)];simp
 rw [h2]
 show (encW ps[t / 7])[t % 7]?=_
 rw [List.getElem?_eq_getElem (by rw [encW_len];exact hk),getElem!_pos _ _ (by rw [encW_len];exact hk)]
theorem holds_wins {w:World} {e:TypeId} {g off cap n:Nat} {ps:List WinP} (h:Row w e 7 (.slice (some ⟨g,off,none⟩) n cap) ((ps.map WinP.x).flatMap wxCells)):n=ps.length/\HoldsK encW 7 w g off ps.toArray/\g < w.heap.size:=by
 rcases h with ⟨h1,_⟩ | ⟨g',off',n',cap',cur,h1,hg,h3,h4,h5,h6,h7⟩
 . cases h1
 . cases h1
   have hl:((ps.map WinP.x).flatMap wxCells).length=7*ps.length:=by rw [winFlat_len,List.length_map]
   have hn:n=ps.length:=by omega
   subst hn
   refine ⟨rfl,fun j hj=>?_,(Array.getElem?_eq_some_iff.1 hg).1⟩
   have hj:j < ps.length*7:=by simpa using hj
   have h8:=h7 j hj
   rw [flat_at ps j hj] at h8
   exact ⟨by simp [World.cell?,hg,h8],by simp [World.frozen?,hg]⟩
end Go.Proofs.YtcfngdnmpogaoaaGreat
namespace Go.Proofs.YtcfngdnmpogaoaaGreat
open Go.RowKit Go.MuLone Go.Sort
variable {g m off:Nat} {os:Array Obj} {w:World}
theorem sw_block {F:Array Value} {cur:Array Value} {e:TypeId} (hg:w.heap[g]?=some (.cells cur e (0,0))):(grow (putRow id (Sort.ahead w m) g off F) os).heap[g]?=some (.cells (putCells id off F cur) e (0,0)):=by
 have hlt:g < w.heap.size:=(Array.getElem?_eq_some_iff.1 hg).1
 show (w.heap.modify g (onCells (putCells id off F))++os)[g]?=_
 rw [Array.getElem?_append_left (by simpa using hlt),Array.getElem?_modify,if_pos rfl,hg]
 rfl
theorem sw_other {k:Nat} {F:Array Value} (hk:k < w.heap.size) (hne:k ≠ g):(grow (putRow id (Sort.ahead w m) g off F) os).heap[k]?=w.heap[k]?:=by
 show (w.heap.modify g (onCells (putCells id off F))++os)[k]?=_
 rw [Array.getElem?_append_left (by simpa using hk),Array.getElem?_modify,if_neg (fun h=>hne h.symm)]
theorem sw_kept (w:World) (g off m:Nat) (F:Array Value) (os:Array Obj):Kept (fun k=>k=g) w (grow (putRow id (Sort.ahead w m) g off F) os):=by
 refine ⟨rfl,rfl,rfl,?_,fun k hk hne=>sw_other hk hne⟩
 show _<=(w.heap.modify g (onCells (putCells id off F))++os).size
 simp
theorem wins_sorted {e:TypeId} {cap n:Nat} {ps qs:List WinP} (h:Row w e 7 (.slice (some ⟨g,off,none⟩) n cap) ((ps.map WinP.x).flatMap wxCells)) (hl:qs.length=ps.length):Row (sortWorldK encW 7 w g off m qs.toArray os) e 7 (.slice (some ⟨g,off,none⟩) n cap) ((qs.map WinP.x).flatMap wxCells):=by
 rcases h with ⟨h1,_⟩ | ⟨g',off',n',cap',cur,h1,hg,h3,h4,h5,h6,h7⟩
 . cases h1
 . cases h1
   have hlp:((ps.map WinP.x).flatMap wxCells).length=7*ps.length:=by rw [winFlat_len,List.length_map]
   have hlq:((qs.map WinP.x).flatMap wxCells).length=7*qs.length:=by rw [winFlat_len,List.length_map]
   refine .inr ⟨g,off,n,cap,_,rfl,sw_block hg,h3,h4,?_,by omega,fun j hj=>?_⟩
   . simpa [putCells] using h5
   . have hjq:j < qs.length*7:=by omega
     rw [flat_at qs j hjq]
     have hcs:off+j < cur.size:=by
      have:n*7<=cap*7:=Nat.mul_le_mul_right 7 h3
      omega
     have hF:(flatK encW 7 qs.toArray).size=qs.length*7:=by rw [size_flatK];simp
     unfold putCells
     rw [Array.getElem?_mapIdx,Array.getElem?_eq_getElem hcs,Option.map_some,if_pos ⟨by omega,by omega⟩]
     rw [Nat.add_sub_cancel_left];rfl
theorem WinsAt.sorted {cap n B:Nat} {ps qs:List WinP} (h:WinsAt w (.slice (some ⟨g,off,none⟩) n cap) (ps.map WinP.x) B) (hp:qs.Perm ps) (hne:∀ p ∈ ps,∀ k,p.x.tv.ownBlock=some k->k ≠ g):WinsAt (sortWorldK encW 7 w g off m qs.toArray os) (.slice (some ⟨g,off,none⟩) n cap) (qs.map WinP.x) B:=by
 have hm:∀ x ∈ qs.map WinP.x,x ∈ ps.map WinP.x:=fun x hx=>(hp.map WinP.x).mem_iff.1 hx
 refine ⟨wins_sorted h.row hp.length_eq,fun x hx=>?_,h.blk,fun h0=>?_⟩
 . obtain ⟨t1,t2⟩:=h.tags x (hm x hx)
   refine ⟨t1.congr (fun k hk=>?_),t2⟩
   obtain ⟨p,hpm,rfl⟩:=List.mem_map.1 (hm x hx)
   exact sw_other (t1.blk_lt hk).1 (hne p hpm k hk)
 . have h1:qs=[]:=List.map_eq_nil_iff.1 h0
   rw [h1] at hp
   have h2:=hp.nil_eq.symm
   have:=h.void (by rw [h2];rfl)
   cases this
end Go.Proofs.YtcfngdnmpogaoaaGreat
namespace Go.Proofs.YtcfngdnmpogaoaaGreat
open Go.RowKit Go.MuLone Go.Sort
structure SortOk:Prop where
 some:∀ (g off cap n:Nat) (ps:List WinP) (w:World),Row w 70 7 (.slice (Option.some ⟨g,off,none⟩) n cap) ((ps.map WinP.x).flatMap wxCells)->ps.length < 4611686018427387904 ->
  Calls Tryz.prog 74 #[.slice (Option.some ⟨g,off,none⟩) n cap,.func (.func 75) #[] #[]] w fun e w'=>e=.returned (.tuple #[])/\∃ (qs:List WinP) (m:Nat) (os:Array Obj),qs.Perm ps/\qs.Pairwise (fun x y=>¬ ltW y.w x.w)/\w'=sortWorldK encW 7 w g off m qs.toArray os
 void:∀ (w:World),Calls Tryz.prog 74 #[.slice Option.none 0 0,.func (.func 75) #[] #[]] w fun e w'=>e=.returned (.tuple #[])/\w'=w
structure Sorted3 (w w':World) (ov:Value) (xs ys:List WinX):Prop where
 wins:WinsAt w' ov ys 0
 perm:ys.Perm xs
 order:(ys.map WinX.w).Pairwise (fun x y=>¬ ltW y x)
 kept:Kept (fun k=>ov.ownBlock=Option.some k) w w'
theorem sort_done (HSo:SortOk) (w:World) (ov:Value) (xs:List WinX) (h:WinsAt w ov xs 0) (hn:xs.length < 4611686018427387904) :
 Calls Tryz.prog 74 #[ov,.func (.func 75) #[] #[]] w fun e w'=>e=.returned (.tuple #[])/\∃ ys,Sorted3 w w' ov xs ys:=by
 by_cases h0:xs=[]
 . have hv:=h.void h0
   subst h0;subst hv
   refine (HSo.void w).mono ?_
   rintro e w' ⟨rfl,rfl⟩
   exact ⟨rfl,[],h,List.Perm.nil,List.Pairwise.nil,Kept.refl _ _⟩
 . obtain ⟨ps,rfl⟩:=wins_of (w:=w) xs (fun x hx=>row_slice (h.tags x hx).1)
   have hne:(ps.map WinP.x).flatMap wxCells ≠ []:=by
    cases ps with
    | nil=>exact absurd rfl h0
    | cons p ps=>intro e;rw [List.map_cons,List.flatMap_cons] at e;cases e
   obtain ⟨g,off,n,cap,rfl,-,-⟩:=h.row.shape hne
   refine (HSo.some g off cap n ps w h.row (by simpa using hn)).mono ?_
   rintro e w' ⟨rfl,qs,m,os,hp,ho,rfl⟩
   have hgb:(Value.slice (Option.some ⟨g,off,none⟩) n cap).ownBlock=Option.some g:=rfl
   refine ⟨rfl,qs.map WinP.x,h.sorted hp (fun p hpm k hk e=>?_),hp.map _,?_,(sw_kept w g off m _ os).mono (fun k _ e=>by rw [e];rfl)⟩
   . subst e
     have ht:=(h.tags p.x (List.mem_map.2 ⟨p,hpm,rfl⟩)).1
     exact (ht.cb hk).ne (h.row.cb hgb) (by decide) rfl
   . rw [List.map_map,List.pairwise_map]
     exact ho
theorem TkG.done {w wr:World} {g:Nat} {r:SCells} {F0:Nat->Prop} {GS ES:List RunX} {E:List Ev} {k:Nat} {ov:Value} {gs1 es1:List RunX} {xs:List WinX} (h:TkG w wr g r F0 GS ES E k ov gs1 es1 xs) (hk:GS.length<=k) (hg:F0 g) :
 TkLoop w (wr.setCell ⟨g,49,none⟩ (.slice none 0 0)) g (r.setEnded (.slice none 0 0)) F0 gs1 [] ov xs/\rsOf gs1=(rsOf GS).map (fun q=>(slidR (stOf r GS ES) q).1)/\xs.map WinX.w=outAll (stOf r GS ES) E (rsOf ES++rsOf GS):=by
 have h1:=h.lp
 rw [List.drop_eq_nil_of_le hk,List.append_nil] at h1
 have h2:=h.S
 have h3:=h.out
 rw [List.take_of_length_le hk] at h2 h3
 have kp:Kept (fun k=>k=g) wr (wr.setCell ⟨g,49,none⟩ (.slice none 0 0)):=(Kept.refl _ wr).setCell ⟨g,49,none⟩ _ (fun _=>rfl)
 have hgl:=h1.flow.sf.lt
 refine ⟨⟨⟨h1.flow.sf.putEnded _,?_,Row.nil _ _ _,fun k _ e=>by simp [SCells.setEnded,Value.ownBlock] at e,fun x hx=>?_,?_⟩,?_,fun k hk=>?_,h1.own,h1.tg,h1.kept.step kp (fun k _ e=>by rw [e];exact hg),h1.ap⟩,h2,h3⟩
 . exact h1.flow.going.kept kp (fun k hk e=>h1.flow.gNe.1 (by rw [<- e];exact hk))
 . have hx:x ∈ gs1++es1:=by simp only [List.append_nil] at hx;exact List.mem_append_left _ hx
   exact (h1.flow.runs x hx).kept kp (fun k hf=>(h1.flow.runNe hx hf).1)
 . rw [List.append_nil];exact (List.pairwise_append.1 h1.flow.disj).1
 . exact h1.wins.kept kp (fun k hk e=>h1.flow.apartW h1.wins.row (.inl rfl) k hk (.inl e)) (fun x hx k hk e=>h1.flow.apartW (h1.wins.tags x hx).1 (.inr rfl) k hk (.inl e))
 . refine h1.foot k ?_
   rcases hk with rfl | hk | hk | ⟨x,hx,hk⟩
   . exact .inl rfl
   . exact .inr (.inl hk)
   . simp [SCells.setEnded,Value.ownBlock] at hk
   . exact .inr (.inr (.inr ⟨x,by simp only [List.append_nil] at hx;exact List.mem_append_left _ hx,hk⟩))
end Go.Proofs.YtcfngdnmpogaoaaGreat
namespace Go.Proofs.YtcfngdnmpogaoaaGreat
open Go.RowKit Go.MuLone
set_option maxHeartbeats 6400000
set_option maxRecDepth 20000
structure Took (w w':World) (g:Nat) (r:SCells) (F0:Nat->Prop) (GS ES:List RunX) (E:List Ev) (ov:Value) (gs:List RunX) (ys:List WinX):Prop where
 lp:TkLoop w w' g (r.setEnded (.slice none 0 0)) F0 gs [] ov ys
 runs:rsOf gs=(rsOf GS).map (fun q=>(slidR (stOf r GS ES) q).1)
 perm:(ys.map WinX.w).Perm (outAll (stOf r GS ES) E (rsOf ES++rsOf GS))
 order:(ys.map WinX.w).Pairwise (fun x y=>¬ ltW y x)
theorem Took.of {w W2 W3:World} {g:Nat} {r:SCells} {F0:Nat->Prop} {GS ES:List RunX} {E:List Ev} {ov:Value} {gs:List RunX} {xs ys:List WinX} (h:TkLoop w W2 g (r.setEnded (.slice none 0 0)) F0 gs [] ov xs) (h1:rsOf gs=(rsOf GS).map (fun q=>(slidR (stOf r GS ES) q).1)) (h2:xs.map WinX.w=outAll (stOf r GS ES) E (rsOf ES++rsOf GS)) (hs:Sorted3 W2 W3 ov xs ys):Took w W3 g r F0 GS ES E ov gs ys:=by
 refine ⟨⟨h.flow.congr (fun k hk=>hs.kept.block k (h.flow.lt hk) (fun e=>h.flow.apartW h.wins.row (.inl rfl) k e hk)),hs.wins,h.foot,h.own,fun x hx=>h.tg x (hs.perm.mem_iff.1 hx),h.kept.step hs.kept (fun k hk e=>by have:=h.own k e;omega),(hs.perm.pairwise_iff (fun h=>tvAp.symm h)).2 h.ap⟩,h1,by rw [<- h2];exact hs.perm.map _,hs.order⟩
theorem takeFinished_any (HRis:RisingOk) (HSo:SortOk) (g:Nat) (r:SCells) (GS ES:List RunX) (E:List Ev) (T:Option Int) (w:World) (hF:FlowAt w g r GS ES) (hO:TkOk (stOf r GS ES) E T) :
 Calls Tryz.prog 47 #[.pointer (some ⟨g,0,none⟩)] w fun e w'=>∃ ov gs ys,e=.returned ov/\Took w w' g r (flowFoot g r GS ES) GS ES E ov gs ys:=by
 obtain ⟨ea,ec,hev,-⟩:=hF.ended.slice
 obtain ⟨ga,gc,hgv,-⟩:=hF.going.slice
 have hel:(runPtrs (Rof ES)).length=ES.length:=by simp [runPtrs,Rof]
 have hgl:(runPtrs (Rof GS)).length=GS.length:=by simp [runPtrs,Rof]
 rw [hel] at hev
 rw [hgl] at hgv
 have c49:w.cell? ⟨g,49,none⟩=some (.slice ea ES.length ec):=by rw [<- hev];exact hF.sf.tailAt 3 rfl
 have HE0:Hid (TkE w w g r (flowFoot g r GS ES) GS ES E 0 (.slice none 0 0) [] []):=
  ⟨⟨by simpa using hF,⟨Row.nil _ _ _,fun x hx=>(by cases hx),fun k hk=>by simp [Value.ownBlock] at hk,fun _=>rfl⟩,fun k hk=>.inl (by simpa using hk),fun k hk=>by simp [Value.ownBlock] at hk,fun x hx=>(by cases hx),Kept.refl _ _,List.Pairwise.nil⟩,rfl,rfl⟩
 have HFg:Hid (flowFoot g r GS ES g):=.inl rfl
 have hEl:ES.length<=200000:=by
  have h1:=hO.few
  have h2:=hO.mod.perm.length_eq
  have h3:(untold T (stOf r GS ES).size (stOf r GS ES).slide E).length<=E.length:=List.length_filter_le _ _
  have h4:((stOf r GS ES).es++(stOf r GS ES).gs).length<=(runEvs ((stOf r GS ES).es++(stOf r GS ES).gs)).length:=by
   have hgen:∀ rs:List RunS,(∀ q ∈ rs,evsOf q.ps ≠ [])->rs.length<=(runEvs rs).length:=by
    intro rs
    induction rs with
    | nil=>intro _;exact Nat.zero_le _
    | cons q rs ih=>
      intro hh
      rw [runEvs_cons,List.length_append,List.length_cons]
      have:=ih (fun p hp=>hh p (List.mem_cons_of_mem _ hp))
      have:=List.length_pos_iff.2 (hh q (List.mem_cons_self ..))
      omega
   refine hgen _ (fun q hq=>?_)
   have hg:=hO.mod.good q hq
   obtain ⟨p,hp⟩:=List.exists_mem_of_ne_nil _ hg.ne
   obtain ⟨e,he⟩:=List.exists_mem_of_ne_nil _ (hg.pane p hp).1
   exact List.ne_nil_of_mem (List.mem_flatMap.2 ⟨p,hp,he⟩)
  have h5:((stOf r GS ES).es++(stOf r GS ES).gs).length=ES.length+GS.length:=by
   show (rsOf ES++rsOf GS).length=_
   rw [List.length_append];simp [rsOf]
  omega
 have hGl:GS.length<=16:=by
  have h1:=hO.mod.gsLen
  have h2:=hO.mod.conf.k2
  have h3:(stOf r GS ES).gs.length=GS.length:=by show (rsOf GS).length=_;simp [rsOf]
  omega
 have HOut:Hid ((outAll (stOf r GS ES) E (rsOf ES++rsOf GS)).length<=4097*E.length/\E.length<=200000):=⟨hO.mod.out_len hO.li hO.conf,hO.few⟩
 have HOk:=hid hO
 have HRisH:Hid RisingOk:=HRis
 have HSoH:Hid SortOk:=HSo
 obtain ⟨F0,HF0⟩:∃ F0,Hid (flowFoot g r GS ES=F0):=⟨_,rfl⟩
 rw [HF0.out] at HE0 HFg ⊢
 clear hF hO HRis HSo hel hgl HF0
 go_enter Tryz.func47,Tryz.ntmps47
 go_wp2_with fail
 go_loopw [3,13] (fun ov sk wr=>∃ (k:Nat) (es1:List RunX) (xs:List WinX),sk=.int .i64 (k:Int)/\k<=ES.length/\TkE w wr g r F0 GS ES E k ov es1 xs) (fun _ sk _=>ES.length - (intOf sk).toNat)
 case atStart=>exact ⟨0,[],[],rfl,Nat.zero_le _,HE0.out⟩
 case round=>
  clear HE0 c49
  obtain ⟨k,es1,xs,rfl,hk,hI⟩:=hrel
  have HI:=hid hI
  clear hI
  by_cases hlt:k < ES.length
  . have hx:ES[k]?=some ES[k]:=List.getElem?_eq_getElem hlt
    generalize ES[k]=x at *
    have HX:=hid hx
    have hrow:=HI.out.lp.flow.ended
    rw [HI.out.Rall] at hrow
    obtain ⟨gg,go,gn,gc',hv,-,-⟩:=hrow.shape (by rw [runPtrs];intro e;have:=congrArg List.length e;simp [Rof] at this;rw [this] at hlt;simp at hlt)
    rw [hev] at hv hrow
    simp only [Value.slice.injEq] at hv
    obtain ⟨rfl,rfl,rfl⟩:=hv
    have g0:wr.cell? ⟨gg,go+k,none⟩=some (.pointer (some ⟨x.d.R,0,none⟩)):=by
     have:=hrow.cell k (by omega)
     rw [runPtrs,Rof,List.getElem?_map,List.getElem?_map,hx] at this;simpa using this
    clear hx hrow
    have hkn:(k:Int) < (ES.length:Int):=by omega
    have hwk:IntKind.i64.wrap ((k:Int)+1)=(k:Int)+1:=by rw [IntKind.wrap_i64];omega
    go_wp2_with fail
    refine (HI.out.slide HRisH.out HOk.out HX.out).mono ?_
    rintro e W2 ⟨ov',ys,es2,rfl,hn⟩
    have HN:=hid hn
    clear hn g0
    go_wp2
    go_roundw
    case rel=>exact ⟨k+1,es2,ys,by go_num,by omega,HN.out⟩
    case measure=>simp [intOf];omega
  . have hkE:ES.length<=k:=by omega
    have hke2:k=ES.length:=by omega
    have HG0:=hid (HI.out.last hkE)
    have c48:wr.cell? ⟨g,48,none⟩=some (.slice ga GS.length gc):=by rw [<- hgv];exact HI.out.lp.flow.sf.tailAt 2 rfl
    have hkn:¬ (k:Int) < (ES.length:Int):=by omega
    clear HI hkE
    go_wp2_with fail
    go_loopw [3,27] (fun ov sk wr=>∃ (k:Nat) (gs1:List RunX) (xs:List WinX),sk=.int .i64 (k:Int)/\k<=GS.length/\TkG w wr g r F0 GS ES E k ov gs1 es1 xs) (fun _ sk _=>GS.length - (intOf sk).toNat)
    case atStart=>exact ⟨0,[],xs,rfl,Nat.zero_le _,HG0.out⟩
    case round=>
     clear HG0 c48 hkn hke2 hlt hk
     obtain ⟨j,gs1,xs1,rfl,hj,hI⟩:=hrel
     have HI:=hid hI
     clear hI
     by_cases hlt:j < GS.length
     . have hx:GS[j]?=some GS[j]:=List.getElem?_eq_getElem hlt
       generalize GS[j]=x at *
       have HX:=hid hx
       have hrow:=HI.out.lp.flow.going
       rw [HI.out.Rall] at hrow
       obtain ⟨gg,go,gn,gc',hv,-,-⟩:=hrow.shape (by rw [runPtrs];intro e;have:=congrArg List.length e;simp [Rof] at this;rw [this] at hlt;simp at hlt)
       rw [hgv] at hv hrow
       simp only [Value.slice.injEq] at hv
       obtain ⟨rfl,rfl,rfl⟩:=hv
       have g0:wr.cell? ⟨gg,go+j,none⟩=some (.pointer (some ⟨x.d.R,0,none⟩)):=by
        have:=hrow.cell j (by omega)
        rw [runPtrs,Rof,List.getElem?_map,List.getElem?_map,hx] at this;simpa using this
       clear hx hrow
       have hkn:(j:Int) < (GS.length:Int):=by omega
       have hwk:IntKind.i64.wrap ((j:Int)+1)=(j:Int)+1:=by rw [IntKind.wrap_i64];omega
       go_wp2_with fail
       refine (HI.out.slide HRisH.out HOk.out HX.out).mono ?_
       rintro e W2 ⟨ov',ys,gs2,rfl,hn⟩
       have HN:=hid hn
       clear hn g0
       go_wp2
       go_roundw
       case rel=>exact ⟨j+1,gs2,ys,by go_num,by omega,HN.out⟩
       case measure=>simp [intOf];omega
     . have hkE:GS.length<=j:=by omega
       obtain ⟨d1,d2,d3⟩:=HI.out.done hkE HFg.out
       have HD1:=hid d1
       have HD2:=hid d2
       have HD3:=hid d3
       have hlen:xs1.length < 4611686018427387904:=by
        have h1:=HOut.out.1
        have h2:=HOut.out.2
        rw [<- d3,List.length_map] at h1
        omega
       have HSD:Hid (Calls Tryz.prog 74 #[u3,.func (.func 75) #[] #[]] (wr.setCell ⟨g,49,none⟩ (.slice none 0 0)) fun e w'=>e=.returned (.tuple #[])/\∃ ys,Sorted3 (wr.setCell ⟨g,49,none⟩ (.slice none 0 0)) w' u3 xs1 ys):=sort_done HSoH.out _ _ _ d1.wins hlen
       clear d1 d2 d3 hlen
       have c49:=HI.out.lp.flow.sf.tailAt 3 rfl
       have f49:=HI.out.lp.flow.sf.frozen 49
       have hkn:¬ (j:Int) < (GS.length:Int):=by omega
       clear HI hkE
       go_upto_region 13 with fail
       clear c49 f49
       generalize wr.setCell ⟨g,49,none⟩ (.slice none 0 0)=W2 at *
       go_wp2_with fail
       refine HSD.out.mono ?_
       rintro e W3 ⟨rfl,ys,hs⟩
       have HT:=hid (Took.of HD1.out HD2.out HD3.out hs)
       clear hs
       go_wp2
       go_ret
       exact ⟨u3,gs1,ys,rfl,HT.out⟩
end Go.Proofs.YtcfngdnmpogaoaaGreat
namespace Go.Proofs.YtcfngdnmpogaoaaGreat
open Go.RowKit Go.MuLone
set_option maxHeartbeats 1600000
theorem Took.unlock {w W2:World} {g:Nat} {r:SCells} {F0:Nat->Prop} {GS ES:List RunX} {E:List Ev} {ov:Value} {gs:List RunX} {ys:List WinX} (h:Took (w.setCell ⟨g,0,none⟩ (.int .i32 1)) W2 g (r.lock 1) F0 GS ES E ov gs ys) (hlk:r.lk=0) (hg:F0 g):Took w (W2.setCell ⟨g,0,none⟩ (.int .i32 0)) g r F0 GS ES E ov gs ys:=by
 have k0:Kept F0 w (w.setCell ⟨g,0,none⟩ (.int .i32 1)):=(Kept.refl _ w).setCell ⟨g,0,none⟩ _ (fun _=>hg)
 have k2:Kept (fun k=>k=g) W2 (W2.setCell ⟨g,0,none⟩ (.int .i32 0)):=(Kept.refl _ W2).setCell ⟨g,0,none⟩ _ (fun _=>rfl)
 have hsz:(w.setCell ⟨g,0,none⟩ (.int .i32 1)).heap.size=w.heap.size:=by simp
 have hsf:=h.lp.flow.sf.putLock 0
 have he:((r.lock 1).setEnded (.slice none 0 0)).lock 0=r.setEnded (.slice none 0 0):=by
  obtain ⟨a1,a2,a3,a4,a5,a6,a7,a8,a9,a10,a11⟩:=r
  simp only at hlk
  subst hlk;rfl
 rw [he] at hsf
 have hap:=h.lp.flow.apartW h.lp.wins.row (.inl rfl)
 refine ⟨⟨h.lp.flow.turn k2 hsf rfl rfl,h.lp.wins.kept k2 (fun k hk e=>hap k hk (.inl e)) (fun x hx k hk e=>h.lp.flow.apartW (h.lp.wins.tags x hx).1 (.inr rfl) k hk (.inl e)),fun k hk=>?_,fun k hk=>?_,fun x hx k hk=>?_,?_,h.lp.ap⟩,h.runs,h.perm,h.order⟩
 . have:=h.lp.foot k hk;rw [hsz] at this;exact this
 . have:=h.lp.own k hk;rw [hsz] at this;exact this
 . have:=h.lp.tg x hx k hk;rw [hsz] at this;exact this
 . exact (k0.trans h.lp.kept).step k2 (fun k _ e=>by rw [e];exact hg)
theorem take_any (HRis:RisingOk) (HSo:SortOk) (g:Nat) (r:SCells) (GS ES:List RunX) (E:List Ev) (T:Option Int) (w:World) (hF:FlowAt w g r GS ES) (hlk:r.lk=0) (hO:TkOk (stOf r GS ES) E T) :
 Calls Tryz.prog 25 #[.pointer (some ⟨g,0,none⟩)] w fun e w'=>∃ ov gs ys,e=.returned ov/\Took w w' g r (flowFoot g r GS ES) GS ES E ov gs ys:=by
 have h0:=hF.sf.lockAt hlk
 have f0:=hF.sf.frozen 0
 have K1:Kept (fun k=>k=g) w (w.setCell ⟨g,0,none⟩ (.int .i32 1)):=(Kept.refl _ w).setCell ⟨g,0,none⟩ _ (fun _=>rfl)
 have F1:FlowAt (w.setCell ⟨g,0,none⟩ (.int .i32 1)) g (r.lock 1) GS ES:=hF.turn K1 (hF.sf.putLock 1) rfl rfl
 have HT1:Hid (Calls Tryz.prog 47 #[.pointer (some ⟨g,0,none⟩)] (w.setCell ⟨g,0,none⟩ (.int .i32 1)) fun e w'=>∃ ov gs ys,e=.returned ov/\Took (w.setCell ⟨g,0,none⟩ (.int .i32 1)) w' g (r.lock 1) (flowFoot g r GS ES) GS ES E ov gs ys):=takeFinished_any HRis HSo g (r.lock 1) GS ES E T _ F1 hO
 have HG:Hid (flowFoot g r GS ES g):=.inl rfl
 have HL:=hid hlk
 obtain ⟨F0,HF0⟩:∃ F0,Hid (flowFoot g r GS ES=F0):=⟨_,rfl⟩
 rw [HF0.out] at HT1 HG ⊢
 clear HRis HSo hO K1 F1 hF hlk HF0
 go_enter_defers Tryz.func25,Tryz.ntmps25
 go_wp2_with (go_at_call 42;refine (lock_free muLib ⟨g,0,none⟩ _ h0 f0).mono ?_;rintro e w' ⟨rfl,rfl⟩)
 clear h0 f0
 obtain ⟨W1,HW1⟩:∃ W1,Hid (w.setCell ⟨g,0,none⟩ (.int .i32 1)=W1):=⟨_,rfl⟩
 rw [HW1.out] at HT1 ⊢
 refine HT1.out.mono ?_
 rintro e W2 ⟨ov,gs,ys,rfl,hT⟩
 have HT:=hid hT
 clear hT HT1
 go_wp2
 refine leaves_cons (f:=43) (args:=#[.pointer (some ⟨g,0,none⟩)]) (by simp) (by simp [go_sem]) ?_
 refine (unlock_deferred muLib ⟨g,0,none⟩ .returning _ (HT.out.lp.flow.sf.lockAt rfl) (HT.out.lp.flow.sf.frozen _)).mono ?_
 rintro e u' w'' ⟨rfl,rfl,rfl⟩
 refine ⟨_,results_tmp rfl _ _ _,ov,gs,ys,rfl,?_⟩
 have h9:=HT.out
 rw [<- HW1.out] at h9
 exact h9.unlock HL.out HG.out
def tookT (sp:Sp) (T:Option Int):Option Int:=if sp.li then some sp.lt else T
theorem take_on (HRis:RisingOk) (HSo:SortOk) (g:Nat) (c:Cf) (sp:Sp) (rs:List (List UInt8)) (F:Nat->Prop) (T:Option Int) (w:World) (h:FlowOn w g c sp rs F T) (hli:sp.E ≠ []->sp.li=true) (hE:sp.E.length<=200000) (hz:c.size<=4096*c.slide) (hlt:sp.lt<=2305843009213693952) :
 Calls Tryz.prog 25 #[.pointer (some ⟨g,0,none⟩)] w fun e w'=>∃ ov ys,e=.returned ov/\WinsAt w' ov ys 0/\DoneOk c.size c.slide T sp.lt sp.li sp.E (ys.map WinX.w)/\(∀ k,ov.ownBlock=some k->w.heap.size<=k)/\(∀ x ∈ ys,∀ k,x.tv.ownBlock=some k->w.heap.size<=k)/\ys.Pairwise tvAp/\FlowOn w' g c sp rs (Grown F w) (tookT sp T)/\Kept F w w':=by
 obtain ⟨us,⟨st,⟨r,gs,es,hA,rfl,hlk,rfl,hF⟩,hm,hfit,h4,rfl⟩,h2⟩:=h
 have e1:(stOf r gs es).lt=sp.lt:=congrArg Sp.lt h4
 have e2:(stOf r gs es).li=sp.li:=congrArg Sp.li h4
 have hO:TkOk (stOf r gs es) sp.E T:=⟨hm,fun h0=>by rw [e2];exact hli h0,hE,hz,by rw [e1];exact hlt⟩
 refine (take_any HRis HSo g r gs es sp.E T w hA hlk hO).mono ?_
 rintro e w' ⟨ov,gs',ys,rfl,hT⟩
 have hst:stOf (r.setEnded (.slice none 0 0)) gs' []=(stOf r gs es).taken:=by
  unfold stOf St.taken
  rw [hT.runs];rfl
 have hmod:Mod (stOf (r.setEnded (.slice none 0 0)) gs' []) sp.E (tookT sp T):=by
  rw [hst]
  unfold tookT
  by_cases hl:sp.li=true
  . rw [if_pos hl,<- e1]
    exact hm.taken (by rw [e2];exact hl)
  . rw [if_neg hl]
    have hE0:sp.E=[]:=Classical.not_not.1 (fun h0=>hl (hli h0))
    rw [hE0] at hm ⊢
    obtain ⟨v1,v2⟩:=hm.void
    refine hm.congr rfl rfl rfl rfl rfl rfl ?_ ?_
    . show (stOf r gs es).gs.map _=_
      rw [v2];rfl
    . rw [v1];rfl
 refine ⟨ov,ys,rfl,hT.lp.wins,?_,hT.lp.own,hT.lp.tg,hT.lp.ap,⟨_,⟨_,⟨r.setEnded (.slice none 0 0),gs',[],hT.lp.flow,rfl,hlk,rfl,fun k hk=>?_⟩,hmod,hfit,?_,rfl⟩,h2.step (hA.bytes8 hT.lp.kept) (fun k hk=>.inl hk)⟩,hT.lp.kept.mono (fun k _ hk=>hF k hk)⟩
 . rw [<- e1,<- e2]
   exact hm.sorted hO.li hT.perm hT.order
 . rcases hT.lp.foot k hk with h5 | h5
   . exact .inl (hF k h5)
   . exact .inr h5
 . rw [<- h4];rfl
end Go.Proofs.YtcfngdnmpogaoaaGreat
namespace Go.Proofs.YtcfngdnmpogaoaaGreat
open Go.RowKit
theorem FlowOn.shun {w:World} {g:Nat} {c:Cf} {sp:Sp} {rs:List (List UInt8)} {F:Nat->Prop} {T:Option Int} {X:Nat->Prop} (h:FlowOn w g c sp rs F T) (hX:∀ k,X k->∃ e sz v xs,Row w e sz v xs/\(e=70\/e=26)/\v.ownBlock=some k):FlowOn w g c sp rs (fun k=>F k/\¬ X k) T:=by
 obtain ⟨us,⟨st,⟨r,gs,es,h3,a1,a2,a3,h5⟩,h6⟩,h2⟩:=h
 refine ⟨us,⟨st,⟨r,gs,es,h3,a1,a2,a3,fun k hk=>⟨h5 k hk,fun hx=>?_⟩⟩,h6⟩,h2.ul,h2.rl,fun i v l hu hr=>⟨(h2.row i v l hu hr).1,fun k hk=>⟨(h2.row i v l hu hr).2.1 k hk,fun hx=>?_⟩,(h2.row i v l hu hr).2.2⟩⟩
 . obtain ⟨e,sz,v,xs,hrow,he,hv⟩:=hX k hx
   exact h3.apartW hrow he k hv hk
 . obtain ⟨e,sz,v',xs,hrow,he,hv⟩:=hX k hx
   rcases he with rfl | rfl
   . exact (h2.row i v l hu hr).1.apart hrow (by decide) hk hv
   . exact (h2.row i v l hu hr).1.apart hrow (by decide) hk hv
end Go.Proofs.YtcfngdnmpogaoaaGreat
