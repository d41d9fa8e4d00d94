import Derived.Test.YtcfngdnmpogaoaaGreatTkT02
import Derived.Deep.RegionHeld3
import Derived.StillTailTactics
import Derived.Test.YtcfngdnmpogaoaaGreatTkT01
namespace Go.Proofs.YtcfngdnmpogaoaaGreat
open Go.RowKit
structure SSrc where
 opened:Bool
 broken:Bool
 unread:Value
 time:Int
 is:Bool
def SSrc.cells (s:SSrc):List Value:=[.bool s.opened,.bool s.broken,s.unread,.int .i64 s.time,.bool s.is]
def SSrc.zero:SSrc:=⟨false,false,.slice none 0 0,0,false⟩
structure SCells where
 lk:Int
 size:Int
 slide:Int
 late:Int
 keys:Int
 src:List SSrc
 lt:Int
 li:Bool
 going:Value
 ended:Value
 n:RCounts
def SCells.head (r:SCells):List Value:=[.int .i32 r.lk,.int .u32 0,.int .i64 r.size,.int .i64 r.slide,.int .i64 r.late,.int .i64 r.keys]
def SCells.tail (r:SCells):List Value:=[.int .i64 r.lt,.bool r.li,r.going,r.ended] ++ r.n.cells
def SCells.cells (r:SCells):List Value:=r.head ++ (r.src.flatMap SSrc.cells ++ r.tail)
def SCells.new (size slide late keys:Int):SCells:=
 ⟨0,size,slide,late,keys,List.replicate 8 SSrc.zero,0,false,.slice none 0 0,.slice none 0 0,⟨0,0,0,0,0,0⟩⟩
structure SF (w:World) (g:Nat) (r:SCells):Prop where
 blk:w.heap[g]? = some (.cells r.cells.toArray 116)
 len:r.src.length = 8
theorem SF.cell {w:World} {g:Nat} {r:SCells} (h:SF w g r) {i:Nat} {v:Value} (hi:r.cells[i]? = some v):w.cell? ⟨g,i,none⟩ = some v:=by
 simp [World.cell?,h.blk,hi]
theorem SF.frozen {w:World} {g:Nat} {r:SCells} (h:SF w g r) (i:Nat):w.frozen? ⟨g,i,none⟩ = false:=by
 simp [World.frozen?,h.blk]
theorem SF.lt {w:World} {g:Nat} {r:SCells} (h:SF w g r):g < w.heap.size:=(Array.getElem?_eq_some_iff.1 h.blk).1
theorem SF.congr {w w':World} {g:Nat} {r:SCells} (h:SF w g r) (hb:w'.heap[g]? = w.heap[g]?):SF w' g r:=⟨by rw [hb];exact h.blk,h.len⟩
theorem SF.below {w w':World} {B g:Nat} {r:SCells} (h:SF w g r) (hb:Below B w w') (hg:g < B):SF w' g r:=h.congr (hb.block g hg)
theorem sflat5 (l:List SSrc) (j k:Nat) (s:SSrc) (hs:l[j]? = some s) (hk:k < 5):(l.flatMap SSrc.cells)[j * 5 + k]? = s.cells[k]?:=by
 induction l generalizing j with
 | nil=>simp at hs
 | cons a l ih=>
   have ha:a.cells.length = 5:=rfl
   cases j with
   | zero=>
     simp at hs
     subst hs
     rw [List.flatMap_cons,List.getElem?_append_left (by omega)]
     simp
   | succ j=>
     simp at hs
     rw [List.flatMap_cons,List.getElem?_append_right (by omega),<- ih j hs]
     congr 1
     omega
theorem sflat5_length (l:List SSrc):(l.flatMap SSrc.cells).length = 5 * l.length:=by
 induction l with
 | nil=>rfl
 | cons a l ih=>rw [List.flatMap_cons,List.length_append,ih];simp [SSrc.cells];omega
theorem SCells.srcAt (r:SCells) (j k:Nat) (s:SSrc) (hs:r.src[j]? = some s) (hk:k < 5):r.cells[6 + j * 5 + k]? = s.cells[k]?:=by
 have hj:j < r.src.length:=(List.getElem?_eq_some_iff.1 hs).1
 have hl:=sflat5_length r.src
 have hh:r.head.length = 6:=rfl
 rw [SCells.cells,List.getElem?_append_right (by omega),List.getElem?_append_left (by omega),<- sflat5 r.src j k s hs hk]
 congr 1
 omega
theorem SF.headAt {w:World} {g:Nat} {r:SCells} (h:SF w g r) (k:Nat) {v:Value} (hv:r.head[k]? = some v):w.cell? ⟨g,k,none⟩ = some v:=by
 have hk:k < r.head.length:=(List.getElem?_eq_some_iff.1 hv).1
 refine h.cell ?_
 rw [SCells.cells,List.getElem?_append_left hk];exact hv
theorem SF.tailAt {w:World} {g:Nat} {r:SCells} (h:SF w g r) (k:Nat) {v:Value} (hv:r.tail[k]? = some v):w.cell? ⟨g,46 + k,none⟩ = some v:=by
 have hl:=sflat5_length r.src
 have hh:r.head.length = 6:=rfl
 have h8:=h.len
 refine h.cell ?_
 rw [SCells.cells,List.getElem?_append_right (by omega),List.getElem?_append_right (by omega),<- hv]
 congr 1
 omega
theorem sflat5_set (l:List SSrc) (j k:Nat) (s s':SSrc) (v:Value) (hs:l[j]? = some s) (hk:k < 5) (hc:s'.cells = s.cells.set k v):(l.set j s').flatMap SSrc.cells = (l.flatMap SSrc.cells).set (j * 5 + k) v:=by
 induction l generalizing j with
 | nil=>simp at hs
 | cons a l ih=>
   have ha:a.cells.length = 5:=rfl
   cases j with
   | zero=>
     simp at hs
     subst hs
     rw [List.set_cons_zero,List.flatMap_cons,List.flatMap_cons,hc,List.set_append_left _ _ (by omega)]
     simp
   | succ j=>
     simp at hs
     rw [List.set_cons_succ,List.flatMap_cons,List.flatMap_cons,ih j hs,List.set_append_right _ _ (by omega)]
     congr 2
     omega
def SCells.setSrc (r:SCells) (j:Nat) (s:SSrc):SCells:={ r with src:=r.src.set j s }
theorem SCells.setSrc_cells (r:SCells) (j k:Nat) (s s':SSrc) (v:Value) (hs:r.src[j]? = some s) (hk:k < 5) (hc:s'.cells = s.cells.set k v):(r.setSrc j s').cells = r.cells.set (6 + j * 5 + k) v:=by
 have hj:j < r.src.length:=(List.getElem?_eq_some_iff.1 hs).1
 have hl:=sflat5_length r.src
 have hh:r.head.length = 6:=rfl
 have e:6 + j * 5 + k - 6 = j * 5 + k:=by omega
 show r.head ++ ((r.src.set j s').flatMap SSrc.cells ++ r.tail) = (r.head ++ (r.src.flatMap SSrc.cells ++ r.tail)).set _ v
 rw [sflat5_set r.src j k s s' v hs hk hc,List.set_append_right _ _ (by omega),hh,e,List.set_append_left _ _ (by omega)]
theorem SCells.setSrc_setSrc (r:SCells) (j:Nat) (s s':SSrc):(r.setSrc j s).setSrc j s' = r.setSrc j s':=by
 simp [SCells.setSrc]
theorem SCells.setSrc_at (r:SCells) (j:Nat) (s:SSrc) (hj:j < r.src.length):(r.setSrc j s).src[j]? = some s:=by
 simp [SCells.setSrc,hj]
theorem SF.put {w:World} {g:Nat} {r r':SCells} (h:SF w g r) (i:Nat) (v:Value) (hr:r'.cells = r.cells.set i v) (hl:r'.src.length = 8):SF (w.setCell ⟨g,i,none⟩ v) g r':=
 ⟨by rw [hr];simp [World.setCell,Array.getElem?_modify,h.blk],hl⟩
theorem SF.putSrc {w:World} {g:Nat} {r:SCells} (h:SF w g r) (j k:Nat) (s s':SSrc) (v:Value) (hs:r.src[j]? = some s) (hk:k < 5) (hc:s'.cells = s.cells.set k v):SF (w.setCell ⟨g,6 + j * 5 + k,none⟩ v) g (r.setSrc j s'):=
 h.put _ _ (r.setSrc_cells j k s s' v hs hk hc) (by simp [SCells.setSrc,h.len])
theorem SF.putHead {w:World} {g:Nat} {r r':SCells} (h:SF w g r) (k:Nat) (v:Value) (hk:k < 6) (h1:r'.head = r.head.set k v) (h2:r'.src = r.src) (h3:r'.tail = r.tail):SF (w.setCell ⟨g,k,none⟩ v) g r':=by
 refine h.put _ _ ?_ (by rw [h2];exact h.len)
 have hh:r.head.length = 6:=rfl
 rw [SCells.cells,SCells.cells,h1,h2,h3,List.set_append_left _ _ (by omega)]
theorem SF.putTail {w:World} {g:Nat} {r r':SCells} (h:SF w g r) (k:Nat) (v:Value) (h1:r'.head = r.head) (h2:r'.src = r.src) (h3:r'.tail = r.tail.set k v):SF (w.setCell ⟨g,46 + k,none⟩ v) g r':=by
 refine h.put _ _ ?_ (by rw [h2];exact h.len)
 have hh:r.head.length = 6:=rfl
 have hl:=sflat5_length r.src
 have h8:=h.len
 rw [SCells.cells,SCells.cells,h1,h2,h3,List.set_append_right _ _ (by omega),List.set_append_right _ _ (by omega)]
 congr 3
 omega
theorem SF.putAll {w:World} {g:Nat} {r:SCells} (h:SF w g r) (j:Nat) (s:SSrc) (a b:Bool) (c:Value) (d:Int) (e:Bool) (hs:r.src[j]? = some s) :
 SF (((((w.setCell ⟨g,6 + j * 5,none⟩ (.bool a)).setCell ⟨g,6 + j * 5 + 1,none⟩ (.bool b)).setCell ⟨g,6 + j * 5 + 2,none⟩ c).setCell ⟨g,6 + j * 5 + 3,none⟩ (.int .i64 d)).setCell ⟨g,6 + j * 5 + 4,none⟩ (.bool e)) g (r.setSrc j ⟨a,b,c,d,e⟩):=by
 have hj:j < r.src.length:=(List.getElem?_eq_some_iff.1 hs).1
 have h1:=h.putSrc j 0 s ⟨a,s.broken,s.unread,s.time,s.is⟩ (.bool a) hs (by omega) rfl
 have h2:=h1.putSrc j 1 _ ⟨a,b,s.unread,s.time,s.is⟩ (.bool b) (r.setSrc_at j _ hj) (by omega) rfl
 rw [SCells.setSrc_setSrc] at h2
 have h3:=h2.putSrc j 2 _ ⟨a,b,c,s.time,s.is⟩ c (r.setSrc_at j _ hj) (by omega) rfl
 rw [SCells.setSrc_setSrc] at h3
 have h4:=h3.putSrc j 3 _ ⟨a,b,c,d,s.is⟩ (.int .i64 d) (r.setSrc_at j _ hj) (by omega) rfl
 rw [SCells.setSrc_setSrc] at h4
 have h5:=h4.putSrc j 4 _ ⟨a,b,c,d,e⟩ (.bool e) (r.setSrc_at j _ hj) (by omega) rfl
 rw [SCells.setSrc_setSrc] at h5
 exact h5
theorem SF.putMoment {w:World} {g:Nat} {r:SCells} (h:SF w g r) (j:Nat) (s:SSrc) (d:Int) (e:Bool) (hs:r.src[j]? = some s) :
 SF ((w.setCell ⟨g,6 + j * 5 + 3,none⟩ (.int .i64 d)).setCell ⟨g,6 + j * 5 + 4,none⟩ (.bool e)) g (r.setSrc j ⟨s.opened,s.broken,s.unread,d,e⟩):=by
 have hj:j < r.src.length:=(List.getElem?_eq_some_iff.1 hs).1
 have h4:=h.putSrc j 3 s ⟨s.opened,s.broken,s.unread,d,s.is⟩ (.int .i64 d) hs (by omega) rfl
 have h5:=h4.putSrc j 4 _ ⟨s.opened,s.broken,s.unread,d,e⟩ (.bool e) (r.setSrc_at j _ hj) (by omega) rfl
 rw [SCells.setSrc_setSrc] at h5
 exact h5
def SCells.lock (r:SCells) (k:Int):SCells:={ r with lk:=k }
theorem SF.putLock {w:World} {g:Nat} {r:SCells} (h:SF w g r) (k:Int):SF (w.setCell ⟨g,0,none⟩ (.int .i32 k)) g (r.lock k):=h.putHead 0 _ (by omega) rfl rfl rfl
def SCells.setLine (r:SCells) (t:Int) (i:Bool):SCells:={ r with lt:=t,li:=i }
theorem SF.putLine {w:World} {g:Nat} {r:SCells} (h:SF w g r) (t:Int) (i:Bool):SF ((w.setCell ⟨g,46,none⟩ (.int .i64 t)).setCell ⟨g,47,none⟩ (.bool i)) g (r.setLine t i):=by
 have h1:SF (w.setCell ⟨g,46 + 0,none⟩ (.int .i64 t)) g (r.setLine t r.li):=h.putTail 0 _ rfl rfl rfl
 exact h1.putTail 1 (.bool i) rfl rfl rfl
end Go.Proofs.YtcfngdnmpogaoaaGreat
namespace Go.Proofs.YtcfngdnmpogaoaaGreat
open Go.RowKit
variable {w:World}
set_option maxHeartbeats 1600000
theorem isSource_any (n:Int) (w:World) :
 Calls Tryz.prog 46 #[.int .i64 n] w fun e w'=>e = .returned (.bool (decide (0 <= n /\ n < 8))) /\ w' = w:=by
 by_cases h0:0 <= n
 . by_cases h8:n < 8
   . have d:decide (0 <= n /\ n < 8) = true:=decide_eq_true ⟨h0,h8⟩
     rw [d]
     go_enter Tryz.func46,Tryz.ntmps46
     go_wp2
     go_ret
     exact ⟨rfl,rfl⟩
   . have d:decide (0 <= n /\ n < 8) = false:=decide_eq_false (by omega)
     rw [d]
     go_enter Tryz.func46,Tryz.ntmps46
     go_wp2
     go_ret
     exact ⟨rfl,rfl⟩
 . have d:decide (0 <= n /\ n < 8) = false:=decide_eq_false (by omega)
   rw [d]
   go_enter Tryz.func46,Tryz.ntmps46
   go_wp2
   go_ret
   exact ⟨rfl,rfl⟩
theorem openSource_out (g:Nat) (n:Int) (w:World) (hn:¬ (0 <= n /\ n < 8)) :
 Calls Tryz.prog 44 #[.pointer (some ⟨g,0,none⟩),.int .i64 n] w fun e w'=>e = .returned (.tuple #[.pointer none,.int .i64 3]) /\ w' = w:=by
 have d:decide (0 <= n /\ n < 8) = false:=decide_eq_false hn
 have hs:=isSource_any n
 rw [d] at hs
 clear d hn
 go_enter Tryz.func44,Tryz.ntmps44
 go_wp2_with fail
 refine (hs _).mono ?_
 rintro e w' ⟨rfl,rfl⟩
 go_wp2
 go_ret2
 exact ⟨rfl,rfl⟩
theorem openSource_no (g n:Nat) (r:SCells) (s:SSrc) (w:World) (h:SF w g r) (hs:r.src[n]? = some s) (ho:s.opened = false) :
 Calls Tryz.prog 44 #[.pointer (some ⟨g,0,none⟩),.int .i64 n] w fun e w'=>e = .returned (.tuple #[.pointer none,.int .i64 4]) /\ w' = w:=by
 have hn:n < 8:=by have:=(List.getElem?_eq_some_iff.1 hs).1;have:=h.len;omega
 have hi:=isSource_any n
 rw [decide_eq_true (show 0 <= (n:Int) /\ (n:Int) < 8 by omega)] at hi
 have c0:w.cell? ⟨g,6 + n * 5,none⟩ = some (.bool false):=h.cell (by rw [<- ho];exact r.srcAt n 0 s hs (by omega))
 clear h
 go_enter Tryz.func44,Tryz.ntmps44
 go_wp2_with fail
 refine (hi _).mono ?_
 rintro e w' ⟨rfl,rfl⟩
 go_wp2_with fail
 go_ret2
 exact ⟨rfl,rfl⟩
theorem openSource_yes (g n:Nat) (r:SCells) (s:SSrc) (w:World) (h:SF w g r) (hs:r.src[n]? = some s) (ho:s.opened = true) :
 Calls Tryz.prog 44 #[.pointer (some ⟨g,0,none⟩),.int .i64 n] w fun e w'=>e = .returned (.tuple #[.pointer (some ⟨g,6 + n * 5,none⟩),.int .i64 0]) /\ w' = w:=by
 have hn:n < 8:=by have:=(List.getElem?_eq_some_iff.1 hs).1;have:=h.len;omega
 have hi:=isSource_any n
 rw [decide_eq_true (show 0 <= (n:Int) /\ (n:Int) < 8 by omega)] at hi
 have c0:w.cell? ⟨g,6 + n * 5,none⟩ = some (.bool true):=h.cell (by rw [<- ho];exact r.srcAt n 0 s hs (by omega))
 clear h
 go_enter Tryz.func44,Tryz.ntmps44
 go_wp2_with fail
 refine (hi _).mono ?_
 rintro e w' ⟨rfl,rfl⟩
 go_wp2_with fail
 go_ret2
 exact ⟨rfl,rfl⟩
theorem raise_yes (g off:Nat) (t x:Int) (b:Bool) (w:World) (h0:w.cell? ⟨g,off,none⟩ = some (.int .i64 t)) (h1:w.cell? ⟨g,off + 1,none⟩ = some (.bool b)) (fz:∀ j,w.frozen? ⟨g,j,none⟩ = false) (hb:b = false \/ t < x) :
 Calls Tryz.prog 98 #[.pointer (some ⟨g,off,none⟩),.int .i64 x] w fun e w'=>e = .returned (.tuple #[]) /\ w' = (w.setCell ⟨g,off,none⟩ (.int .i64 x)).setCell ⟨g,off + 1,none⟩ (.bool true):=by
 cases b with
 | false=>
   clear hb
   go_enter Tryz.func98,Tryz.ntmps98
   go_wp2
   go_end0
   exact ⟨rfl,rfl⟩
 | true=>
   have hlt:t < x:=by simpa using hb
   clear hb
   go_enter Tryz.func98,Tryz.ntmps98
   go_wp2
   go_end0
   exact ⟨rfl,rfl⟩
theorem raise_no (g off:Nat) (t x:Int) (w:World) (h0:w.cell? ⟨g,off,none⟩ = some (.int .i64 t)) (h1:w.cell? ⟨g,off + 1,none⟩ = some (.bool true)) (hb:¬ t < x) :
 Calls Tryz.prog 98 #[.pointer (some ⟨g,off,none⟩),.int .i64 x] w fun e w'=>e = .returned (.tuple #[]) /\ w' = w:=by
 go_enter Tryz.func98,Tryz.ntmps98
 go_wp2
 go_end0
 exact ⟨rfl,rfl⟩
def leastStep (m:Int × Bool) (s:SSrc):Int × Bool:=if s.is && (!m.2 || decide (s.time < m.1)) then (s.time,true) else m
def leastF (l:List SSrc):Int × Bool:=l.foldl leastStep (0,false)
theorem leastF_succ (l:List SSrc) (k:Nat) (s:SSrc) (h:l[k]? = some s):leastF (l.take (k + 1)) = leastStep (leastF (l.take k)) s:=by
 have hk:k < l.length:=(List.getElem?_eq_some_iff.1 h).1
 have:l[k] = s:=(List.getElem?_eq_some_iff.1 h).2
 rw [List.take_succ_eq_append_getElem hk,leastF,List.foldl_append,this];rfl
theorem two_new (w:World) (a b:Obj):((w.alloc a).alloc b).heap[w.heap.size]? = some a /\ ((w.alloc a).alloc b).heap[w.heap.size + 1]? = some b:=by
 have e:(w.alloc a).heap.size = w.heap.size + 1:=by simp
 refine ⟨?_,?_⟩
 . rw [Below.heap_alloc _ _ _ (by omega)];exact heap_alloc_new w a
 . rw [<- e];exact heap_alloc_new _ b
theorem cells2At {g:Nat} {x y:Value} {t:TypeId} (h:w.heap[g]? = some (.cells #[x,y] t (0,0))) :
 w.cell? ⟨g,0,none⟩ = some x /\ w.cell? ⟨g,1,none⟩ = some y /\ (∀ j,w.frozen? ⟨g,j,none⟩ = false) /\ (∀ o,(w.alloc o).cell? ⟨g,0,none⟩ = some x /\ (w.alloc o).cell? ⟨g,1,none⟩ = some y /\ ∀ j,(w.alloc o).frozen? ⟨g,j,none⟩ = false):=by
 have hlt:g < w.heap.size:=(Array.getElem?_eq_some_iff.1 h).1
 refine ⟨by simp [World.cell?,h],by simp [World.cell?,h],fun j=>by simp [World.frozen?,h],fun o=>?_⟩
 have h':(w.alloc o).heap[g]? = some (.cells #[x,y] t (0,0)):=by rw [Below.heap_alloc _ _ _ hlt];exact h
 exact ⟨by simp only [World.cell?,h'];rfl,by simp only [World.cell?,h'];rfl,fun j=>by simp only [World.frozen?,h'];rfl⟩
theorem cells2Put {g:Nat} {x y u v:Value} {t:TypeId} (h:w.heap[g]? = some (.cells #[x,y] t (0,0))):((w.setCell ⟨g,0,none⟩ u).setCell ⟨g,1,none⟩ v).heap[g]? = some (.cells #[u,v] t (0,0)):=by
 simp [World.setCell,Array.getElem?_modify,h]
theorem setCell2_other (w:World) (g k:Nat) (u v:Value) (h:k ≠ g):((w.setCell ⟨g,0,none⟩ u).setCell ⟨g,1,none⟩ v).heap[k]? = w.heap[k]?:=by
 rw [heap_setCell_other _ _ _ _ h,heap_setCell_other _ _ _ _ h]
structure LInv (w:World) (r:SCells) (wr:World) (k:Nat):Prop where
 below:Below w.heap.size w wr
 size:w.heap.size + 2 <= wr.heap.size
 res:wr.heap[w.heap.size]? = some (.cells #[.int .i64 0,.bool false] 104 (0,0))
 box:wr.heap[w.heap.size + 1]? = some (.cells #[.int .i64 (leastF (r.src.take k)).1,.bool (leastF (r.src.take k)).2] 104 (0,0))
theorem LInv.same {wr:World} {r:SCells} {k:Nat} (h:LInv w r wr k) (o:Obj) (he:leastF (r.src.take (k + 1)) = leastF (r.src.take k)):LInv w r (wr.alloc o) (k + 1):=by
 have hs:=h.size
 refine ⟨h.below.alloc (by omega) o,by simp;omega,?_,?_⟩
 . rw [Below.heap_alloc _ _ _ (by omega)];exact h.res
 . rw [Below.heap_alloc _ _ _ (by omega),he];exact h.box
theorem LInv.put {wr:World} {r:SCells} {k:Nat} (h:LInv w r wr k) (o:Obj) (t:Int) (he:leastF (r.src.take (k + 1)) = (t,true)) :
 LInv w r (((wr.alloc o).setCell ⟨w.heap.size + 1,0,none⟩ (.int .i64 t)).setCell ⟨w.heap.size + 1,1,none⟩ (.bool true)) (k + 1):=by
 have hs:=h.size
 refine ⟨((h.below.alloc (by omega) o).setCell (by simp) _).setCell (by simp) _,by simp [World.setCell];omega,?_,?_⟩
 . rw [setCell2_other _ _ _ _ _ (by omega),Below.heap_alloc _ _ _ (by omega)];exact h.res
 . rw [he]
   exact cells2Put (x:=.int .i64 (leastF (r.src.take k)).1) (y:=.bool (leastF (r.src.take k)).2) (by rw [Below.heap_alloc _ _ _ (by omega)];exact h.box)
theorem leastLatest_any (g:Nat) (r:SCells) (w:World) (h:SF w g r) :
 Calls Tryz.prog 111 #[.pointer (some ⟨g,0,none⟩)] w fun e w'=>e = .returned (.agg #[.int .i64 (leastF r.src).1,.bool (leastF r.src).2]) /\ Below w.heap.size w w':=by
 have hglt:=h.lt
 have H:=hid h
 have hl8:=h.len
 clear h
 go_enter Tryz.func111,Tryz.ntmps111
 go_wp2
 go_loopw [7] (fun i wr=>∃ k:Nat,k <= 8 /\ i = .int .i64 (k:Int) /\ LInv w r wr k) (fun i _=>8 - (intOf i).toNat)
 case atStart=>
  exact ⟨0,by omega,rfl,((Below.refl _ w).alloc (Nat.le_refl _) _).alloc (by simp) _,by simp,(two_new w _ _).1,(two_new w _ _).2⟩
 case round=>
  obtain ⟨k,hk,rfl,hi⟩:=hrel
  have h:=H.out.below hi.below hglt
  have HI:=hid hi
  by_cases hk8:k < 8
  . obtain ⟨s,hs⟩:∃ s,r.src[k]? = some s:=⟨_,List.getElem?_eq_getElem (by rw [h.len];exact hk8)⟩
    have d0:wr.cell? ⟨g,6 + k * 5 + 3,none⟩ = some (.int .i64 s.time):=h.cell (r.srcAt k 3 s hs (by omega))
    have d1:wr.cell? ⟨g,6 + k * 5 + 4,none⟩ = some (.bool s.is):=h.cell (r.srcAt k 4 s hs (by omega))
    have HS:Hid (leastF (r.src.take (k + 1)) = leastStep (leastF (r.src.take k)) s):=leastF_succ _ _ _ hs
    obtain ⟨b0,b1,fb,bA⟩:=cells2At hi.box
    have hsz:=hi.size
    clear hi h
    obtain ⟨mt,hmt⟩:∃ mt,(leastF (r.src.take k)).1 = mt:=⟨_,rfl⟩
    obtain ⟨mi,hmi⟩:∃ mi,(leastF (r.src.take k)).2 = mi:=⟨_,rfl⟩
    have HM:Hid (leastF (r.src.take k) = (mt,mi)):=by show _ = _;rw [<- hmt,<- hmi]
    rw [hmt] at b0 bA
    rw [hmi] at b1 bA
    have bA0:=fun o=>(bA o).1
    have bA1:=fun o=>(bA o).2.1
    have bA2:=fun o=>(bA o).2.2
    clear bA hmt hmi
    cases hi:s.is with
    | false=>
      have HN:Hid (leastF (r.src.take (k + 1)) = leastF (r.src.take k)):=by show _ = _;rw [HS.out,leastStep,hi];rfl
      rw [hi] at d1
      go_wp2
      go_roundw
      case rel=>exact ⟨k + 1,by omega,by go_num,HI.out.same _ HN.out⟩
      case measure=>simp [intOf];omega
    | true=>
      rw [hi] at d1
      by_cases hY:mi = false \/ s.time < mt
      . have HN:Hid (leastF (r.src.take (k + 1)) = (s.time,true)):=by
         show _ = _
         rw [HS.out,HM.out,leastStep,hi,if_pos (by simpa using hY)]
        cases mi with
        | false=>
          clear hY
          go_wp2
          go_roundw
          case rel=>exact ⟨k + 1,by omega,by go_num,HI.out.put _ _ HN.out⟩
          case measure=>simp [intOf];omega
        | true=>
          have hlt:s.time < mt:=by simpa using hY
          clear hY
          go_wp2
          go_roundw
          case rel=>exact ⟨k + 1,by omega,by go_num,HI.out.put _ _ HN.out⟩
          case measure=>simp [intOf];omega
      . have HN:Hid (leastF (r.src.take (k + 1)) = leastF (r.src.take k)):=by show _ = _;rw [HS.out,HM.out,leastStep,hi,if_neg (by simpa using hY)]
        have hmi:mi = true:=by cases mi <;> simp at hY ⊢
        have hlt:¬ s.time < mt:=fun h=>hY (.inr h)
        subst hmi
        clear hY
        go_wp2
        go_roundw
        case rel=>exact ⟨k + 1,by omega,by go_num,HI.out.same _ HN.out⟩
        case measure=>simp [intOf];omega
  . have hk':k = 8:=by omega
    subst hk'
    obtain ⟨b0,b1,fb,bA⟩:=cells2At hi.box
    obtain ⟨c0,c1,fc,cA⟩:=cells2At hi.res
    have ht:r.src.take 8 = r.src:=List.take_of_length_le (by omega)
    rw [ht] at b0 b1
    have hres:=hi.res
    clear bA cA hi h
    go_wp2
    have hW:=cells2Put (u:=.int .i64 (leastF r.src).1) (v:=.bool (leastF r.src).2) hres
    have hB:=((HI.out.below.setCell (p:=⟨w.heap.size,0,none⟩) (Nat.le_refl _) (.int .i64 (leastF r.src).1)).setCell (p:=⟨w.heap.size,1,none⟩) (Nat.le_refl _) (.bool (leastF r.src).2))
    obtain ⟨e0,e1,-,-⟩:=cells2At hW
    generalize (wr.setCell ⟨w.heap.size,0,none⟩ (.int .i64 (leastF r.src).1)).setCell ⟨w.heap.size,1,none⟩ (.bool (leastF r.src).2) = W at *
    exact bodyPost_ret (v:=.agg #[.int .i64 (leastF r.src).1,.bool (leastF r.src).2]) (by simp [results,Tryz.results111,go_sem,e0,e1]) rfl ⟨rfl,hB⟩
end Go.Proofs.YtcfngdnmpogaoaaGreat
namespace Go.Proofs.YtcfngdnmpogaoaaGreat
open Go.RowKit
set_option maxHeartbeats 1600000
set_option maxRecDepth 20000
def SCells.moved (r:SCells):SCells:=
 if (leastF r.src).2 then (if r.li = false \/ r.lt < (leastF r.src).1 - r.late then r.setLine ((leastF r.src).1 - r.late) true else r) else r
theorem moveLine_of (g:Nat) (r:SCells) (w:World) (h:SF w g r) (X:Nat -> Prop) (hX:X g) (Q:World -> Prop) (hQ:∀ w',SF w' g r -> Kept X w w' -> (leastF r.src).2 = false -> Q w')
 (hl:IntKind.i64.wrap ((leastF r.src).1 - r.late) = (leastF r.src).1 - r.late)
 (he:∀ W,SF W g r.moved -> Kept X w W -> (leastF r.src).2 = true -> Calls Tryz.prog 112 #[.pointer (some ⟨g,0,none⟩)] W fun e w'=>e = .returned (.tuple #[]) /\ Q w') :
 Calls Tryz.prog 77 #[.pointer (some ⟨g,0,none⟩)] w fun e w'=>e = .returned (.tuple #[]) /\ Q w':=by
 have H:Hid (SF w g r):=h
 have hglt:=h.lt
 have HE:Hid (∀ W,SF W g r.moved -> Kept X w W -> (leastF r.src).2 = true -> Calls Tryz.prog 112 #[.pointer (some ⟨g,0,none⟩)] W fun e w'=>e = .returned (.tuple #[]) /\ Q w'):=he
 have HQ:Hid (∀ w',SF w' g r -> Kept X w w' -> (leastF r.src).2 = false -> Q w'):=hQ
 have HL:=leastLatest_any g r
 have HM:Hid (r.moved = if (leastF r.src).2 then (if r.li = false \/ r.lt < (leastF r.src).1 - r.late then r.setLine ((leastF r.src).1 - r.late) true else r) else r):=rfl
 obtain ⟨mt,hmt⟩:∃ mt,(leastF r.src).1 = mt:=⟨_,rfl⟩
 obtain ⟨mi,hmi⟩:∃ mi,(leastF r.src).2 = mi:=⟨_,rfl⟩
 rw [hmt,hmi] at HM HL
 rw [hmi] at HE HQ
 rw [hmt] at hl
 have Hll:=hl
 clear hmt hmi h he hQ
 go_enter Tryz.func77,Tryz.ntmps77
 go_wp2_with fail
 refine (HL _ H.out).mono ?_
 rintro e W ⟨rfl,hb⟩
 have h1:=H.out.below hb hglt
 have K1:Hid (Kept X w W):=Kept.ofBelow hb X
 have H1:Hid (SF W g r):=h1
 clear hb HL
 have hglt1:=h1.lt
 cases mi with
 | false=>
   clear h1
   go_wp2
   refine bodyPost_ret (results_none rfl _ _ _) rfl ?_
   exact ⟨rfl,HQ.out _ (H1.out.congr (Below.heap_alloc _ _ _ hglt1)) (K1.out.alloc _) trivial⟩
 | true=>
   clear h1
   go_wp2
   have d0:(W.alloc (.cells #[.int .i64 mt,.bool true] 104)).cell? ⟨W.heap.size,0,none⟩ = some (.int .i64 mt):=by simp
   have H2:Hid (SF (W.alloc (.cells #[.int .i64 mt,.bool true] 104)) g r):=H1.out.congr (Below.heap_alloc _ _ _ hglt1)
   have K2:Hid (Kept X w (W.alloc (.cells #[.int .i64 mt,.bool true] 104))):=K1.out.alloc _
   generalize W.alloc (.cells #[.int .i64 mt,.bool true] 104) = W2 at *
   refine wp_region_still_tail 11 (by kernel_rfl) (by kernel_rfl) ?_
   simp only [List.take_succ_cons,List.take_zero,List.drop_succ_cons,List.drop_zero]
   change wpStill Tryz.prog _ W2.drew (fun a'=>wpList Tryz.prog _ _ _ a' W2.drew) _ _
   have d0:W2.drew.cell? ⟨W.heap.size,0,none⟩ = some (.int .i64 mt):=d0
   have H3:Hid (SF W2.drew g r):=H2.out.congr rfl
   have K3:Hid (Kept X w W2.drew):=K2.out.drew
   generalize W2.drew = W3 at *
   have c4:W3.cell? ⟨g,4,none⟩ = some (.int .i64 r.late):=H3.out.headAt 4 rfl
   repeat still_step
   refine wpStill_nil ?_
   have c46:W3.cell? ⟨g,46,none⟩ = some (.int .i64 r.lt):=H3.out.tailAt 0 rfl
   have c47:W3.cell? ⟨g,47,none⟩ = some (.bool r.li):=H3.out.tailAt 1 rfl
   have fz:∀ j,W3.frozen? ⟨g,j,none⟩ = false:=H3.out.frozen
   by_cases hup:r.li = false \/ r.lt < mt - r.late
   . have HR:Hid (Calls Tryz.prog 98 #[.pointer (some ⟨g,46,none⟩),.int .i64 (mt - r.late)] W3 fun e w'=>e = .returned (.tuple #[]) /\ w' = (W3.setCell ⟨g,46,none⟩ (.int .i64 (mt - r.late))).setCell ⟨g,47,none⟩ (.bool true)):=raise_yes g 46 r.lt (mt - r.late) r.li W3 c46 c47 fz hup
     have HM':Hid (r.moved = r.setLine (mt - r.late) true):=by show _ = _;rw [HM.out];simp [hup]
     clear c46 c47 fz c4 d0 hup
     go_wp2_with fail
     refine HR.out.mono ?_
     rintro e W4 ⟨rfl,rfl⟩
     have H4:Hid (SF ((W3.setCell ⟨g,46,none⟩ (.int .i64 (mt - r.late))).setCell ⟨g,47,none⟩ (.bool true)) g r.moved):=by show SF _ _ _;rw [HM'.out];exact H3.out.putLine _ _
     have K4:Hid (Kept X w ((W3.setCell ⟨g,46,none⟩ (.int .i64 (mt - r.late))).setCell ⟨g,47,none⟩ (.bool true))):=(K3.out.setCell ⟨g,46,none⟩ _ (fun _=>hX)).setCell ⟨g,47,none⟩ _ (fun _=>hX)
     generalize (W3.setCell ⟨g,46,none⟩ (.int .i64 (mt - r.late))).setCell ⟨g,47,none⟩ (.bool true) = W5 at *
     go_wp2_with fail
     refine (HE.out W5 H4.out K4.out trivial).mono ?_
     rintro e W6 ⟨rfl,hq⟩
     go_wp2
     go_end0
     exact ⟨rfl,hq⟩
   . have hli:r.li = true:=by cases h:r.li <;> simp [h] at hup ⊢
     have HR:Hid (Calls Tryz.prog 98 #[.pointer (some ⟨g,46,none⟩),.int .i64 (mt - r.late)] W3 fun e w'=>e = .returned (.tuple #[]) /\ w' = W3):=raise_no g 46 r.lt (mt - r.late) W3 c46 (by rw [c47,hli]) (fun h=>hup (.inr h))
     have HM':Hid (r.moved = r):=by show _ = _;rw [HM.out];simp [hup]
     have H4:Hid (SF W3 g r.moved):=by show SF _ _ _;rw [HM'.out];exact H3.out
     clear c46 c47 fz c4 d0 hup
     go_wp2_with fail
     refine HR.out.mono ?_
     rintro e W4 ⟨rfl,rfl⟩
     go_wp2_with fail
     refine (HE.out _ H4.out K3.out trivial).mono ?_
     rintro e W6 ⟨rfl,hq⟩
     go_wp2
     go_end0
     exact ⟨rfl,hq⟩
end Go.Proofs.YtcfngdnmpogaoaaGreat
namespace Go.Proofs.YtcfngdnmpogaoaaGreat
open Go.RowKit
set_option maxHeartbeats 800000
def str (l:List UInt8):ByteArray:=⟨l.toArray⟩
theorem conv_row {w:World} {v:Value} {l:List UInt8} (h:Row w 5 1 v (l.map byteV)) (hl:l ≠ []) :
 ∃ g off cap,v = .slice (some ⟨g,off,none⟩) l.length cap /\ (convert 30 9 (.slice (some ⟨g,off,none⟩) l.length cap)).run Tryz.prog w = .ok (.string (str l)) w:=by
 obtain ⟨g,off,n,cap,rfl,hn,_⟩:=h.shape (by simpa using hl)
 obtain ⟨hb,rfl⟩:=h.bytes
 refine ⟨g,off,cap,rfl,?_⟩
 exact run_convert_bytes_back (P:=Tryz.prog) w 30 9 5 ⟨g,off,none⟩ cap l Tryz.underlying30 Tryz.underlying5 Tryz.underlying9 (fun j hj=>by
  rw [Addr.add_lit];simpa using hb j hj)
theorem str_data (l:List UInt8):(str l).data.toList = l:=by simp [str]
theorem str_size (l:List UInt8):(str l).size = l.length:=by simp [str,ByteArray.size]
theorem shr_low (x n:Nat):x / 256 ^ n = x / 2 ^ (8 * n):=by
 rw [Nat.pow_mul]
theorem ret_str {a b:ByteArray} (h:a = b):Ending.returned (.string a) = .returned (.string b):=by rw [h]
theorem low_any (x k:Nat) (w:World) (hx0:x < 18446744073709551616) (hk:k <= 8) (hk1:1 <= k) :
 Calls Tryz.prog 51 #[.int .u64 (x:Int),.int .i64 (k:Int)] w fun e w'=>e = .returned (.string (str (low x k))) /\ Below w.heap.size w w':=by
 have hx:=hid hx0
 clear hx0
 obtain ⟨i,hi,hz0,hz1,hz2⟩:=info_parts info5
 go_enter Tryz.func51,Tryz.ntmps51
 go_wp2
 go_loopw [5,6] (fun b c wr=>∃ (n:Nat),n <= k /\ c = .int .i64 (n:Int) /\ Row wr 5 1 b ((low x n).map byteV) /\ (∀ g,b.ownBlock = some g -> w.heap.size <= g) /\ Below w.heap.size w wr)
  (fun _ c _=>k - (intOf c).toNat)
 case atStart=>exact ⟨0,Nat.zero_le _,rfl,Row.nil _ _ _,by simp [Value.ownBlock],Below.refl _ _⟩
 case round=>
  obtain ⟨n,hn,rfl,hr,hu,hb⟩:=hrel
  have hBr:=hb.size
  by_cases hlt:n < k
  . have hll:((low x n).map byteV).length = n:=by simp [low_length]
    generalize hL:(low x n).map byteV = L at *
    have HL:=hid hL
    clear hL
    go_wp2_with (at_builtin;go_must (refine wpList_append _ rfl _ _ _ _ rfl 5 i (.int .u8 0) 1 1 Tryz.underlying30 hi hz0 hz1 hz2 rfl Nat.one_pos u5 L rfl (hr.alloc _) (.slice (some ⟨wr.heap.size,0,none⟩) 1 1) 1 [.int .u8 ((x:Int) / 2 ^ (8 * n) % 256)] rfl ?hsrc Nat.one_pos ?h63 ?hby ?next))
    case hsrc=>exact Src.ofSlice _ Tryz.underlying30 ⟨wr.heap.size,0,none⟩ 1 1 _ rfl (one_new wr _ _) (by simp [Value.oneCell'])
    case h63=>rw [hll];simp only [maxLen];omega
    case hby=>rw [hll];omega
    intro v' w' ha
    have HA:=hid ha
    clear ha
    go_wp2
    have ha:=HA.out
    have hb1:Below w.heap.size wr (wr.alloc (.cells #[.int .u8 ((x:Int) / 2 ^ (8 * n) % 256)] 5)):=(Below.refl _ wr).alloc hBr _
    have hb2:=hb1.trans (ha.below hu (by simp;omega))
    have hrr:=ha.row
    have e1:((x:Int) / 2 ^ (8 * n)) % 256 = ((UInt8.ofNat (x / 256 ^ n)).toNat:Int):=by
     rw [<- wrap_byte,shr_low];simp
    rw [e1,<- HL.out] at hrr
    go_round
    case rel=>
     refine ⟨n + 1,by omega,by go_num,?_,ha.blk hu (by simp;omega),hb.trans hb2⟩
     rw [low_snoc,List.map_append (l₂:=[_])]
     exact hrr
    case measure=>simp [intOf];omega
  . have hnk:n = k:=by omega
    subst hnk
    obtain ⟨g,off,cap,rfl,hcv⟩:=conv_row hr (by intro h;have:=congrArg List.length h;simp [low_length] at this;omega)
    generalize hll:low x n = ll at *
    have HL:=hid hll
    clear hll
    go_wp2
    go_ret
    exact ⟨ret_str (by rw [HL.out]),hb⟩
def itemV (kind:Int) (key:ByteArray) (time value tag:Int):Value:=.agg #[.int .i64 kind,.string key,.int .i64 time,.int .i64 value,.int .u32 tag]
def isItemB (kind:Int) (key:ByteArray) (value tag:Int):Bool:=
 if kind = 2 then decide (key.toList = []) && value == 0 && tag == 0 else kind == 1 && decide (1 <= key.size) && decide (key.size <= 8)
theorem ret_bool {a b:Bool} (h:a = b):Ending.returned (.bool a) = .returned (.bool b):=by rw [h]
theorem isItem_any (kind:Int) (key:ByteArray) (time value tag:Int) (w:World) (hk:key.size <= 9223372036854775807) :
 Calls Tryz.prog 35 #[.agg #[.int .i64 kind,.string key,.int .i64 time,.int .i64 value,.int .u32 tag]] w fun e w'=>e = .returned (.bool (isItemB kind key value tag)) /\ Below w.heap.size w w':=by
 go_enter Tryz.func35,Tryz.ntmps35
 go_wp2
 all_goals go_ret
 all_goals refine ⟨ret_bool ?_,(Below.refl _ _).alloc (Nat.le_refl _) _⟩
 all_goals simp_all [isItemB]
 all_goals first | omega | (rw [Bool.eq_iff_iff];simp;omega)
theorem rIsItem_any (kind:Int) (key:ByteArray) (time value tag:Int) (w:World) (hk:key.size <= 9223372036854775807) :
 Calls Tryz.prog 50 #[.agg #[.int .i64 kind,.string key,.int .i64 time,.int .i64 value,.int .u32 tag]] w fun e w'=>e = .returned (.bool (isItemB kind key value tag)) /\ Below w.heap.size w w':=by
 go_enter Tryz.func50,Tryz.ntmps50
 go_wp2
 all_goals go_ret
 all_goals refine ⟨ret_bool ?_,(Below.refl _ _).alloc (Nat.le_refl _) _⟩
 all_goals simp_all [isItemB]
 all_goals first | omega | (rw [Bool.eq_iff_iff];simp;omega)
end Go.Proofs.YtcfngdnmpogaoaaGreat
