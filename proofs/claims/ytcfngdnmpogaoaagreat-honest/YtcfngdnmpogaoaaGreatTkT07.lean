import Derived.Test.YtcfngdnmpogaoaaGreatTkT06
import Derived.Maps.Own
import Derived.Maps.OwnOps
import Derived.Maps.OwnSet
import Derived.Deep.CutRange
namespace Go.Proofs.YtcfngdnmpogaoaaGreat
open Go.RowKit
variable {w:World} {xs:List Value}
theorem unframe_row (v:Value) (L:List UInt8) (w:World) (h:Row w 5 1 v (L.map byteV)) (hl:L.length <= 9223372036854775807) :
 Calls Tryz.prog 16 #[v] w fun e w'=>e = .returned (.tuple #[unfV L,.int .i64 (unfN L),.int .i64 (unfE L)]) /\ Below w.heap.size w w':=by
 by_cases hL:L = []
 . subst hL
   obtain ⟨a,c,rfl,_⟩:=h.slice
   exact unframe_empty a c w
 . obtain ⟨g,off,n,cap,rfl,hn,hc⟩:=h.shape (by simpa using hL)
   obtain ⟨hb,rfl⟩:=h.bytes
   exact unframe_any g off cap L w hb hl hc
def Bytes8 (w w':World):Prop:=∀ (k:Nat) (c:Array Value) (f:Nat × Nat),w.heap[k]? = some (Obj.cells c 5 f) -> w'.heap[k]? = some (Obj.cells c 5 f)
theorem Bytes8.trans {a b c:World} (h:Bytes8 a b) (k:Bytes8 b c):Bytes8 a c:=fun i x f hx=>k i x f (h i x f hx)
theorem Bytes8.ofBelow {w':World} (h:Below w.heap.size w w'):Bytes8 w w':=fun k c f hk=>by
 rw [h.block k (Array.getElem?_eq_some_iff.1 hk).1];exact hk
theorem Row.bytes8 {w':World} {v:Value} (h:Row w 5 1 v xs) (hb:Bytes8 w w'):Row w' 5 1 v xs:=by
 rcases h with h | ⟨g,off,n,cap,cur,rfl,hg,r⟩
 . exact .inl h
 . exact .inr ⟨g,off,n,cap,cur,rfl,hb _ _ _ hg,r⟩
def lenV:Value -> Nat
 | .slice _ n _=>n
 | _=>0
theorem Row.rest {e:TypeId} {g off n cap:Nat} (h:Row w e 1 (.slice (some ⟨g,off,none⟩) n cap) xs) (k:Nat) (hk:k <= n) (hne:k < cap):Row w e 1 (.slice (some ⟨g,off + k,none⟩) (n - k) (cap - k)) (xs.drop k):=by
 rcases h with ⟨h,_⟩ | ⟨g',off',n',cap',cur,hv,hg,h1,h2,h3,h4,h5⟩
 . simp at h
 . simp only [Value.slice.injEq,Option.some.injEq,Addr.mk.injEq] at hv
   obtain ⟨⟨rfl,rfl,_⟩,rfl,rfl⟩:=hv
   refine .inr ⟨g,off + k,n - k,cap - k,cur,rfl,hg,by omega,by omega,by omega,by simp;omega,fun j hj=>?_⟩
   rw [List.getElem?_drop,Nat.add_assoc]
   exact h5 (k + j) (by omega)
theorem Row.empty {e:TypeId} {g off n cap:Nat} (h:Row w e 1 (.slice (some ⟨g,off,none⟩) n cap) xs):Row w e 1 (.slice (some ⟨g,off,none⟩) 0 0) []:=by
 rcases h with ⟨h,_⟩ | ⟨g',off',n',cap',cur,hv,hg,h1,h2,h3,h4,h5⟩
 . simp at h
 . simp only [Value.slice.injEq,Option.some.injEq,Addr.mk.injEq] at hv
   obtain ⟨⟨rfl,rfl,_⟩,rfl,rfl⟩:=hv
   exact .inr ⟨g,off,0,0,cur,rfl,hg,Nat.le_refl _,by omega,by omega,rfl,fun j hj=>by simp at hj⟩
theorem unfN_pos (L:List UInt8) (h1:unfShort L = false) (h2:unfOk L = true):unfN L = (((L.getD 0 0).toNat + 3:Nat):Int) /\ (L.getD 0 0).toNat + 3 <= L.length:=by
 refine ⟨by rw [unfN,h1,h2];rfl,?_⟩
 have:=of_decide_eq_false h1
 omega
theorem unf_short (L:List UInt8) (h:unfShort L = true):unfV L = itemNone /\ unfN L = 0 /\ unfE L = 0:=⟨by rw [unfV,h];rfl,by rw [unfN,h];rfl,by rw [unfE,h];rfl⟩
theorem unf_bad (L:List UInt8) (h:unfShort L = false) (h2:unfOk L = false):unfV L = itemNone /\ unfN L = 0 /\ unfE L = 2:=⟨by rw [unfV,h,h2];rfl,by rw [unfN,h,h2];rfl,by rw [unfE,h,h2];rfl⟩
end Go.Proofs.YtcfngdnmpogaoaaGreat
namespace Go.Proofs.YtcfngdnmpogaoaaGreat
open Go.RowKit Go.MuLone
set_option maxHeartbeats 1600000
theorem SF.lockAt {w:World} {g:Nat} {r:SCells} (h:SF w g r) {k:Int} (hk:r.lk = k):w.cell? ⟨g,0,none⟩ = some (.int .i32 k):=by rw [<- hk];exact h.headAt 0 rfl
theorem open_yes (g n:Nat) (r:SCells) (s:SSrc) (w:World) (h:SF w g r) (hlk:r.lk = 0) (hs:r.src[n]? = some s) (ho:s.opened = false) :
 Calls Tryz.prog 22 #[.pointer (some ⟨g,0,none⟩),.int .i64 n] w fun e w'=>e = .returned (.int .i64 0) /\ SF w' g (r.setSrc n ⟨true,s.broken,s.unread,s.time,s.is⟩) /\ Kept (fun k=>k = g) w w':=by
 have hn:n < 8:=by have:=(List.getElem?_eq_some_iff.1 hs).1;have:=h.len;omega
 have hi:=isSource_any n
 rw [decide_eq_true (show 0 <= (n:Int) /\ (n:Int) < 8 by omega)] at hi
 have h0:=h.lockAt hlk
 have f0:=h.frozen 0
 have H1:Hid (SF (w.setCell ⟨g,0,none⟩ (.int .i32 1)) g (r.lock 1)):=h.putLock 1
 have K1:Hid (Kept (fun k=>k = g) w (w.setCell ⟨g,0,none⟩ (.int .i32 1))):=(Kept.refl _ w).setCell ⟨g,0,none⟩ _ (fun _=>rfl)
 clear h
 go_enter_defers Tryz.func22,Tryz.ntmps22
 go_wp2_with (go_at_call 42;refine (lock_free muLib ⟨g,0,none⟩ _ h0 f0).mono ?_;rintro e w' ⟨rfl,rfl⟩)
 generalize w.setCell ⟨g,0,none⟩ (.int .i32 1) = W1 at *
 have c0:W1.cell? ⟨g,6 + n * 5,none⟩ = some (.bool false):=H1.out.cell (by rw [<- ho];exact (r.lock 1).srcAt n 0 s hs (by omega))
 have fz:∀ j,W1.frozen? ⟨g,j,none⟩ = false:=H1.out.frozen
 clear h0 f0
 refine (hi _).mono ?_
 rintro e w' ⟨rfl,rfl⟩
 go_wp2_with fail
 have H2:Hid (SF (w'.setCell ⟨g,6 + n * 5,none⟩ (.bool true)) g ((r.lock 1).setSrc n ⟨true,s.broken,s.unread,s.time,s.is⟩)):=H1.out.putSrc n 0 s _ _ hs (by omega) rfl
 have K2:Hid (Kept (fun k=>k = g) w (w'.setCell ⟨g,6 + n * 5,none⟩ (.bool true))):=K1.out.setCell ⟨g,_,none⟩ _ (fun _=>rfl)
 generalize w'.setCell ⟨g,6 + n * 5,none⟩ (.bool true) = W2 at *
 refine leaves_cons (f:=43) (args:=#[.pointer (some ⟨g,0,none⟩)]) (by simp) (by simp [go_sem]) ?_
 refine (unlock_deferred muLib ⟨g,0,none⟩ .returning _ (H2.out.lockAt rfl) (H2.out.frozen _)).mono ?_
 rintro e u' w'' ⟨rfl,rfl,rfl⟩
 refine ⟨_,results_tmp rfl _ _ _,rfl,?_,K2.out.setCell ⟨g,0,none⟩ _ (fun _=>rfl)⟩
 have:=H2.out.putLock 0
 have e:(SCells.lock ((r.lock 1).setSrc n ⟨true,s.broken,s.unread,s.time,s.is⟩) 0) = r.setSrc n ⟨true,s.broken,s.unread,s.time,s.is⟩:=by
  cases r;simp only at hlk;subst hlk;rfl
 rw [e] at this;exact this
theorem line_any (g:Nat) (r:SCells) (w:World) (h:SF w g r) (hlk:r.lk = 0) :
 Calls Tryz.prog 29 #[.pointer (some ⟨g,0,none⟩)] w fun e w'=>e = .returned (.tuple #[.int .i64 r.lt,.bool r.li]) /\ SF w' g r /\ Kept (fun k=>k = g) w w':=by
 have h0:=h.lockAt hlk
 have f0:=h.frozen 0
 have H1:Hid (SF (w.setCell ⟨g,0,none⟩ (.int .i32 1)) g (r.lock 1)):=h.putLock 1
 have K1:Hid (Kept (fun k=>k = g) w (w.setCell ⟨g,0,none⟩ (.int .i32 1))):=(Kept.refl _ w).setCell ⟨g,0,none⟩ _ (fun _=>rfl)
 clear h
 go_enter_defers Tryz.func29,Tryz.ntmps29
 go_wp2_with (go_at_call 42;refine (lock_free muLib ⟨g,0,none⟩ _ h0 f0).mono ?_;rintro e w' ⟨rfl,rfl⟩)
 generalize w.setCell ⟨g,0,none⟩ (.int .i32 1) = W1 at *
 have c46:W1.cell? ⟨g,46,none⟩ = some (.int .i64 r.lt):=H1.out.tailAt 0 rfl
 have c47:W1.cell? ⟨g,47,none⟩ = some (.bool r.li):=H1.out.tailAt 1 rfl
 clear h0 f0
 go_quiet (fail)
 go_wp2
 have H2:Hid (SF (W1.drewN nq) g (r.lock 1)):=H1.out.congr (by simp)
 have K2:Hid (Kept (fun k=>k = g) w (W1.drewN nq)):=K1.out.drewN nq
 generalize W1.drewN nq = W2 at *
 refine leaves_cons (f:=43) (args:=#[.pointer (some ⟨g,0,none⟩)]) (by simp) (by simp [go_sem]) ?_
 refine (unlock_deferred muLib ⟨g,0,none⟩ .returning _ (H2.out.lockAt rfl) (H2.out.frozen _)).mono ?_
 rintro e u' w'' ⟨rfl,rfl,rfl⟩
 refine ⟨_,results_tmp2 rfl _ _ _,rfl,?_,K2.out.setCell ⟨g,0,none⟩ _ (fun _=>rfl)⟩
 have:=H2.out.putLock 0
 have e:(SCells.lock (r.lock 1) 0) = r:=by cases r;simp only at hlk;subst hlk;rfl
 rw [e] at this;exact this
theorem feed_of (g n:Nat) (r:SCells) (s:SSrc) (bv:Value) (w:World) (h:SF w g r) (hlk:r.lk = 0) (hs:r.src[n]? = some s) (ho:s.opened = true) (P:World -> Prop)
 (hP:∀ W,P W -> W.cell? ⟨g,0,none⟩ = some (.int .i32 1) /\ W.frozen? ⟨g,0,none⟩ = false)
 (hread:∀ W,SF W g (r.lock 1) -> Kept (fun k=>k = g) w W -> Calls Tryz.prog 45 #[.pointer (some ⟨g,0,none⟩),.pointer (some ⟨g,6 + n * 5,none⟩),bv] W fun e W'=>e = .returned (.tuple #[]) /\ P W') :
 Calls Tryz.prog 20 #[.pointer (some ⟨g,0,none⟩),.int .i64 n,bv] w fun e w'=>e = .returned (.int .i64 0) /\ ∃ W,P W /\ w' = W.setCell ⟨g,0,none⟩ (.int .i32 0):=by
 have h0:=h.lockAt hlk
 have f0:=h.frozen 0
 have H1:Hid (SF (w.setCell ⟨g,0,none⟩ (.int .i32 1)) g (r.lock 1)):=h.putLock 1
 have K1:Hid (Kept (fun k=>k = g) w (w.setCell ⟨g,0,none⟩ (.int .i32 1))):=(Kept.refl _ w).setCell ⟨g,0,none⟩ _ (fun _=>rfl)
 have HP:Hid (∀ W,P W -> W.cell? ⟨g,0,none⟩ = some (.int .i32 1) /\ W.frozen? ⟨g,0,none⟩ = false):=hP
 have HR:Hid (∀ W,SF W g (r.lock 1) -> Kept (fun k=>k = g) w W -> Calls Tryz.prog 45 #[.pointer (some ⟨g,0,none⟩),.pointer (some ⟨g,6 + n * 5,none⟩),bv] W fun e W'=>e = .returned (.tuple #[]) /\ P W'):=hread
 clear h hP hread
 go_enter_defers Tryz.func20,Tryz.ntmps20
 go_wp2_with (go_at_call 42;refine (lock_free muLib ⟨g,0,none⟩ _ h0 f0).mono ?_;rintro e w' ⟨rfl,rfl⟩)
 generalize w.setCell ⟨g,0,none⟩ (.int .i32 1) = W1 at *
 clear h0 f0
 refine (openSource_yes g n (r.lock 1) s W1 H1.out hs ho).mono ?_
 rintro e w' ⟨rfl,rfl⟩
 go_wp2_with fail
 refine (HR.out _ H1.out K1.out).mono ?_
 rintro e W2 ⟨rfl,hp⟩
 have HP2:Hid (P W2):=hp
 clear hp
 go_wp2_with fail
 refine leaves_cons (f:=43) (args:=#[.pointer (some ⟨g,0,none⟩)]) (by simp) (by simp [go_sem]) ?_
 refine (unlock_deferred muLib ⟨g,0,none⟩ .returning _ (HP.out W2 HP2.out).1 (HP.out W2 HP2.out).2).mono ?_
 rintro e u' w'' ⟨rfl,rfl,rfl⟩
 exact ⟨_,results_tmp rfl _ _ _,rfl,W2,HP2.out,rfl⟩
theorem close_of (g n:Nat) (r:SCells) (s:SSrc) (w:World) (h:SF w g r) (hlk:r.lk = 0) (hs:r.src[n]? = some s) (ho:s.opened = true) (P:World -> Prop)
 (hP:∀ W,P W -> W.cell? ⟨g,0,none⟩ = some (.int .i32 1) /\ W.frozen? ⟨g,0,none⟩ = false)
 (hmove:∀ W,SF W g ((r.lock 1).setSrc n SSrc.zero) -> Kept (fun k=>k = g) w W -> Calls Tryz.prog 77 #[.pointer (some ⟨g,0,none⟩)] W fun e W'=>e = .returned (.tuple #[]) /\ P W') :
 Calls Tryz.prog 49 #[.pointer (some ⟨g,0,none⟩),.int .i64 n] w fun e w'=>e = .returned (.int .i64 0) /\ ∃ W,P W /\ w' = W.setCell ⟨g,0,none⟩ (.int .i32 0):=by
 have h0:=h.lockAt hlk
 have f0:=h.frozen 0
 have H1:Hid (SF (w.setCell ⟨g,0,none⟩ (.int .i32 1)) g (r.lock 1)):=h.putLock 1
 have K1:Hid (Kept (fun k=>k = g) w (w.setCell ⟨g,0,none⟩ (.int .i32 1))):=(Kept.refl _ w).setCell ⟨g,0,none⟩ _ (fun _=>rfl)
 have HP:Hid (∀ W,P W -> W.cell? ⟨g,0,none⟩ = some (.int .i32 1) /\ W.frozen? ⟨g,0,none⟩ = false):=hP
 have HR:Hid (∀ W,SF W g ((r.lock 1).setSrc n SSrc.zero) -> Kept (fun k=>k = g) w W -> Calls Tryz.prog 77 #[.pointer (some ⟨g,0,none⟩)] W fun e W'=>e = .returned (.tuple #[]) /\ P W'):=hmove
 clear h hP hmove
 go_enter_defers Tryz.func49,Tryz.ntmps49
 go_wp2_with (go_at_call 42;refine (lock_free muLib ⟨g,0,none⟩ _ h0 f0).mono ?_;rintro e w' ⟨rfl,rfl⟩)
 generalize w.setCell ⟨g,0,none⟩ (.int .i32 1) = W1 at *
 clear h0 f0
 refine (openSource_yes g n (r.lock 1) s W1 H1.out hs ho).mono ?_
 rintro e w' ⟨rfl,rfl⟩
 have c0:w'.cell? ⟨g,6 + n * 5,none⟩ = some (.bool s.opened):=H1.out.cell ((r.lock 1).srcAt n 0 s hs (by omega))
 have c1:w'.cell? ⟨g,6 + n * 5 + 1,none⟩ = some (.bool s.broken):=H1.out.cell ((r.lock 1).srcAt n 1 s hs (by omega))
 have c2:w'.cell? ⟨g,6 + n * 5 + 2,none⟩ = some s.unread:=H1.out.cell ((r.lock 1).srcAt n 2 s hs (by omega))
 have c3:w'.cell? ⟨g,6 + n * 5 + 3,none⟩ = some (.int .i64 s.time):=H1.out.cell ((r.lock 1).srcAt n 3 s hs (by omega))
 have c4:w'.cell? ⟨g,6 + n * 5 + 4,none⟩ = some (.bool s.is):=H1.out.cell ((r.lock 1).srcAt n 4 s hs (by omega))
 have fz:∀ j,w'.frozen? ⟨g,j,none⟩ = false:=H1.out.frozen
 have H2:Hid (SF (((((w'.setCell ⟨g,6 + n * 5,none⟩ (.bool false)).setCell ⟨g,6 + n * 5 + 1,none⟩ (.bool false)).setCell ⟨g,6 + n * 5 + 2,none⟩ (.slice none 0 0)).setCell ⟨g,6 + n * 5 + 3,none⟩ (.int .i64 0)).setCell ⟨g,6 + n * 5 + 4,none⟩ (.bool false)) g ((r.lock 1).setSrc n SSrc.zero)):=H1.out.putAll n s false false (.slice none 0 0) 0 false hs
 have K2:Hid (Kept (fun k=>k = g) w (((((w'.setCell ⟨g,6 + n * 5,none⟩ (.bool false)).setCell ⟨g,6 + n * 5 + 1,none⟩ (.bool false)).setCell ⟨g,6 + n * 5 + 2,none⟩ (.slice none 0 0)).setCell ⟨g,6 + n * 5 + 3,none⟩ (.int .i64 0)).setCell ⟨g,6 + n * 5 + 4,none⟩ (.bool false))):=by
  refine Kept.setCell ?_ ⟨g,_,none⟩ _ (fun _=>rfl)
  refine Kept.setCell ?_ ⟨g,_,none⟩ _ (fun _=>rfl)
  refine Kept.setCell ?_ ⟨g,_,none⟩ _ (fun _=>rfl)
  refine Kept.setCell ?_ ⟨g,_,none⟩ _ (fun _=>rfl)
  refine Kept.setCell ?_ ⟨g,_,none⟩ _ (fun _=>rfl)
  exact K1.out
 go_wp2_with fail
 generalize ((((w'.setCell ⟨g,6 + n * 5,none⟩ (.bool false)).setCell ⟨g,6 + n * 5 + 1,none⟩ (.bool false)).setCell ⟨g,6 + n * 5 + 2,none⟩ (.slice none 0 0)).setCell ⟨g,6 + n * 5 + 3,none⟩ (.int .i64 0)).setCell ⟨g,6 + n * 5 + 4,none⟩ (.bool false) = W3 at *
 refine (HR.out _ H2.out K2.out).mono ?_
 rintro e W2 ⟨rfl,hp⟩
 have HP2:Hid (P W2):=hp
 clear hp
 go_wp2_with fail
 refine leaves_cons (f:=43) (args:=#[.pointer (some ⟨g,0,none⟩)]) (by simp) (by simp [go_sem]) ?_
 refine (unlock_deferred muLib ⟨g,0,none⟩ .returning _ (HP.out W2 HP2.out).1 (HP.out W2 HP2.out).2).mono ?_
 rintro e u' w'' ⟨rfl,rfl,rfl⟩
 exact ⟨_,results_tmp rfl _ _ _,rfl,W2,HP2.out,rfl⟩
theorem new_yes (size slide late keys:Int) (w:World) (hc:isConf size slide late keys) :
 Calls Tryz.prog 41 #[confV size slide late keys] w fun e w'=>∃ g,w.heap.size <= g /\ e = .returned (.tuple #[.pointer (some ⟨g,0,none⟩),.int .i64 0]) /\ SF w' g (SCells.new size slide late keys) /\ Below w.heap.size w w':=by
 have HC:Hid (isConf size slide late keys):=hc
 clear hc
 go_enter Tryz.func41,Tryz.ntmps41
 go_wp2_with fail
 refine (isConfig_any size slide late keys _).mono ?_
 rintro e W ⟨⟨b,rfl,hb⟩,hB⟩
 have hbt:b = true:=hb.2 HC.out
 subst hbt
 have c0:W.cell? ⟨w.heap.size,0,none⟩ = some (.int .i64 size):=by rw [hB.cell (by simp)];simp
 have c1:W.cell? ⟨w.heap.size,1,none⟩ = some (.int .i64 slide):=by rw [hB.cell (by simp)];simp
 have c2:W.cell? ⟨w.heap.size,2,none⟩ = some (.int .i64 late):=by rw [hB.cell (by simp)];simp
 have c3:W.cell? ⟨w.heap.size,3,none⟩ = some (.int .i64 keys):=by rw [hB.cell (by simp)];simp
 have HB:Hid (Below w.heap.size w W):=((Below.refl _ w).alloc (Nat.le_refl _) _).trans (hB.mono (by simp))
 clear hB hb
 go_wp2_with fail
 refine bodyPost_ret (results_tmp2 rfl _ _ _) rfl ⟨W.heap.size,HB.out.size,rfl,⟨?_,rfl⟩,HB.out.alloc HB.out.size _⟩
 rw [heap_alloc_new]
 rfl
end Go.Proofs.YtcfngdnmpogaoaaGreat
namespace Go.Proofs.YtcfngdnmpogaoaaGreat
open Go.RowKit Go.MuLone
set_option maxHeartbeats 3200000
set_option maxRecDepth 20000
def countsV (c:RCounts):Value:=.agg #[.int .i64 c.taken,.int .i64 c.late,.int .i64 c.range,.int .i64 c.full,.int .i64 c.marks,.int .i64 c.broken]
theorem cells6Put {w:World} {g:Nat} {x0 x1 x2 x3 x4 x5 y0 y1 y2 y3 y4 y5:Value} {t:TypeId} (h:w.heap[g]? = some (.cells #[x0,x1,x2,x3,x4,x5] t (0,0))) :
 ((((((w.setCell ⟨g,0,none⟩ y0).setCell ⟨g,1,none⟩ y1).setCell ⟨g,2,none⟩ y2).setCell ⟨g,3,none⟩ y3).setCell ⟨g,4,none⟩ y4).setCell ⟨g,5,none⟩ y5).heap[g]? = some (.cells #[y0,y1,y2,y3,y4,y5] t (0,0)):=by
 simp [World.setCell,Array.getElem?_modify,h]
theorem cells6At {w:World} {g:Nat} {x0 x1 x2 x3 x4 x5:Value} {t:TypeId} (h:w.heap[g]? = some (.cells #[x0,x1,x2,x3,x4,x5] t (0,0))) :
 w.cell? ⟨g,0,none⟩ = some x0 /\ w.cell? ⟨g,1,none⟩ = some x1 /\ w.cell? ⟨g,2,none⟩ = some x2 /\ w.cell? ⟨g,3,none⟩ = some x3 /\ w.cell? ⟨g,4,none⟩ = some x4 /\ w.cell? ⟨g,5,none⟩ = some x5 /\ (∀ j,w.frozen? ⟨g,j,none⟩ = false):=by
 refine ⟨by simp [World.cell?,h],by simp [World.cell?,h],by simp [World.cell?,h],by simp [World.cell?,h],by simp [World.cell?,h],by simp [World.cell?,h],fun j=>by simp [World.frozen?,h]⟩
theorem told_any (g:Nat) (r:SCells) (w:World) (h:SF w g r) :
 Calls Tryz.prog 48 #[.pointer (some ⟨g,50,none⟩)] w fun e w'=>e = .returned (countsV r.n) /\ Below w.heap.size w w':=by
 have hglt:=h.lt
 have H:Hid (SF w g r):=h
 clear h
 go_enter Tryz.func48,Tryz.ntmps48
 go_wp2_with fail
 refine wp_region_still_tail 24 (by kernel_rfl) (by kernel_rfl) ?_
 simp only [List.take_succ_cons,List.take_zero,List.drop_succ_cons,List.drop_zero]
 have hbox:=heap_alloc_new w (.cells #[.int .i64 0,.int .i64 0,.int .i64 0,.int .i64 0,.int .i64 0,.int .i64 0] 58)
 have H1:Hid (SF (w.alloc (.cells #[.int .i64 0,.int .i64 0,.int .i64 0,.int .i64 0,.int .i64 0,.int .i64 0] 58)) g r):=H.out.congr (Below.heap_alloc _ _ _ hglt)
 have HB:Hid (Below w.heap.size w (w.alloc (.cells #[.int .i64 0,.int .i64 0,.int .i64 0,.int .i64 0,.int .i64 0,.int .i64 0] 58))):=(Below.refl _ w).alloc (Nat.le_refl _) _
 generalize w.alloc (.cells #[.int .i64 0,.int .i64 0,.int .i64 0,.int .i64 0,.int .i64 0,.int .i64 0] 58) = W1 at *
 change wpStill Tryz.prog _ W1.drew (fun a'=>wpList Tryz.prog _ _ _ a' W1.drew) _ _
 have hbox:W1.drew.heap[w.heap.size]? = some (.cells #[.int .i64 0,.int .i64 0,.int .i64 0,.int .i64 0,.int .i64 0,.int .i64 0] 58 (0,0)):=hbox
 have H2:Hid (SF W1.drew g r):=H1.out.congr rfl
 have HB2:Hid (Below w.heap.size w W1.drew):=HB.out.drew
 generalize W1.drew = W2 at *
 obtain ⟨b0,b1,b2,b3,b4,b5,bf⟩:=cells6At hbox
 have q0:=load_any g 50 r.n.taken W2 (H2.out.tailAt 4 rfl)
 have q1:=load_any g 51 r.n.late W2 (H2.out.tailAt 5 rfl)
 have q2:=load_any g 52 r.n.range W2 (H2.out.tailAt 6 rfl)
 have q3:=load_any g 53 r.n.full W2 (H2.out.tailAt 7 rfl)
 have q4:=load_any g 54 r.n.marks W2 (H2.out.tailAt 8 rfl)
 have q5:=load_any g 55 r.n.broken W2 (H2.out.tailAt 9 rfl)
 repeat still_step
 still_call q0
 repeat still_step
 still_call q1
 repeat still_step
 still_call q2
 repeat still_step
 still_call q3
 repeat still_step
 still_call q4
 repeat still_step
 still_call q5
 repeat still_step
 refine wpStill_nil ?_
 clear q0 q1 q2 q3 q4 q5
 go_wp2
 have hW:=cells6Put (y0:=.int .i64 r.n.taken) (y1:=.int .i64 r.n.late) (y2:=.int .i64 r.n.range) (y3:=.int .i64 r.n.full) (y4:=.int .i64 r.n.marks) (y5:=.int .i64 r.n.broken) hbox
 have hB:=(((((HB2.out.setCell (p:=⟨w.heap.size,0,none⟩) (Nat.le_refl _) (.int .i64 r.n.taken)).setCell (p:=⟨w.heap.size,1,none⟩) (Nat.le_refl _) (.int .i64 r.n.late)).setCell (p:=⟨w.heap.size,2,none⟩) (Nat.le_refl _) (.int .i64 r.n.range)).setCell (p:=⟨w.heap.size,3,none⟩) (Nat.le_refl _) (.int .i64 r.n.full)).setCell (p:=⟨w.heap.size,4,none⟩) (Nat.le_refl _) (.int .i64 r.n.marks)).setCell (p:=⟨w.heap.size,5,none⟩) (Nat.le_refl _) (.int .i64 r.n.broken)
 clear b0 b1 b2 b3 b4 b5 bf
 generalize (((((W2.setCell ⟨w.heap.size,0,none⟩ (.int .i64 r.n.taken)).setCell ⟨w.heap.size,1,none⟩ (.int .i64 r.n.late)).setCell ⟨w.heap.size,2,none⟩ (.int .i64 r.n.range)).setCell ⟨w.heap.size,3,none⟩ (.int .i64 r.n.full)).setCell ⟨w.heap.size,4,none⟩ (.int .i64 r.n.marks)).setCell ⟨w.heap.size,5,none⟩ (.int .i64 r.n.broken) = W at *
 obtain ⟨b0,b1,b2,b3,b4,b5,bf⟩:=cells6At hW
 exact bodyPost_ret (v:=countsV r.n) (by simp [results,Tryz.results48,go_sem,b0,b1,b2,b3,b4,b5,countsV]) rfl ⟨rfl,hB⟩
theorem counts_any (g:Nat) (r:SCells) (w:World) (h:SF w g r) (hlk:r.lk = 0) :
 Calls Tryz.prog 27 #[.pointer (some ⟨g,0,none⟩)] w fun e w'=>e = .returned (countsV r.n) /\ SF w' g r /\ Kept (fun k=>k = g) w w':=by
 have hglt:=h.lt
 have hbox:=heap_alloc_new w (.cells #[.int .i64 0,.int .i64 0,.int .i64 0,.int .i64 0,.int .i64 0,.int .i64 0] 58)
 have H0:Hid (SF (w.alloc (.cells #[.int .i64 0,.int .i64 0,.int .i64 0,.int .i64 0,.int .i64 0,.int .i64 0] 58)) g r):=h.congr (Below.heap_alloc _ _ _ hglt)
 have K0:Hid (Kept (fun k=>k = g) w (w.alloc (.cells #[.int .i64 0,.int .i64 0,.int .i64 0,.int .i64 0,.int .i64 0,.int .i64 0] 58))):=(Kept.refl _ w).alloc _
 clear h
 go_enter_defers Tryz.func27,Tryz.ntmps27
 go_wp2_with fail
 have hsz:w.heap.size < (w.alloc (.cells #[.int .i64 0,.int .i64 0,.int .i64 0,.int .i64 0,.int .i64 0,.int .i64 0] 58)).heap.size:=by simp
 generalize w.alloc (.cells #[.int .i64 0,.int .i64 0,.int .i64 0,.int .i64 0,.int .i64 0,.int .i64 0] 58) = W0 at *
 refine (lock_free muLib ⟨g,0,none⟩ _ (H0.out.lockAt hlk) (H0.out.frozen _)).mono ?_
 rintro e w' ⟨rfl,rfl⟩
 have H1:Hid (SF (W0.setCell ⟨g,0,none⟩ (.int .i32 1)) g (r.lock 1)):=H0.out.putLock 1
 have K1:Hid (Kept (fun k=>k = g) w (W0.setCell ⟨g,0,none⟩ (.int .i32 1))):=K0.out.setCell ⟨g,0,none⟩ _ (fun _=>rfl)
 have hbox1:(W0.setCell ⟨g,0,none⟩ (.int .i32 1)).heap[w.heap.size]? = some (.cells #[.int .i64 0,.int .i64 0,.int .i64 0,.int .i64 0,.int .i64 0,.int .i64 0] 58 (0,0)):=by
  rw [heap_setCell_other _ _ _ _ (by simp;omega)];exact hbox
 have hsz1:w.heap.size < (W0.setCell ⟨g,0,none⟩ (.int .i32 1)).heap.size:=by simpa [World.setCell] using hsz
 generalize W0.setCell ⟨g,0,none⟩ (.int .i32 1) = W1 at *
 go_wp2_with fail
 refine (told_any g (r.lock 1) W1 H1.out).mono ?_
 rintro e W2 ⟨rfl,hb⟩
 have H2:Hid (SF W2 g (r.lock 1)):=H1.out.below hb H1.out.lt
 have K2:Hid (Kept (fun k=>k = g) w W2):=K1.out.trans (Kept.ofBelow hb _)
 have hbox2:W2.heap[w.heap.size]? = some (.cells #[.int .i64 0,.int .i64 0,.int .i64 0,.int .i64 0,.int .i64 0,.int .i64 0] 58 (0,0)):=by rw [hb.block _ hsz1];exact hbox1
 obtain ⟨b0,b1,b2,b3,b4,b5,bf⟩:=cells6At hbox2
 clear hb
 have HV:Hid (countsV r.n = .agg #[.int .i64 r.n.taken,.int .i64 r.n.late,.int .i64 r.n.range,.int .i64 r.n.full,.int .i64 r.n.marks,.int .i64 r.n.broken]):=rfl
 have e0:(r.lock 1).n = r.n:=rfl
 rw [e0]
 clear e0
 rw [HV.out]
 go_wp2_with fail
 have hW:=cells6Put (y0:=.int .i64 r.n.taken) (y1:=.int .i64 r.n.late) (y2:=.int .i64 r.n.range) (y3:=.int .i64 r.n.full) (y4:=.int .i64 r.n.marks) (y5:=.int .i64 r.n.broken) hbox2
 have hgB:g ≠ w.heap.size:=by omega
 have H3:Hid (SF ((((((W2.setCell ⟨w.heap.size,0,none⟩ (.int .i64 r.n.taken)).setCell ⟨w.heap.size,1,none⟩ (.int .i64 r.n.late)).setCell ⟨w.heap.size,2,none⟩ (.int .i64 r.n.range)).setCell ⟨w.heap.size,3,none⟩ (.int .i64 r.n.full)).setCell ⟨w.heap.size,4,none⟩ (.int .i64 r.n.marks)).setCell ⟨w.heap.size,5,none⟩ (.int .i64 r.n.broken)) g (r.lock 1)):=by
  refine H2.out.congr ?_
  rw [heap_setCell_other _ _ _ _ hgB,heap_setCell_other _ _ _ _ hgB,heap_setCell_other _ _ _ _ hgB,heap_setCell_other _ _ _ _ hgB,heap_setCell_other _ _ _ _ hgB,heap_setCell_other _ _ _ _ hgB]
 have K3:Hid (Kept (fun k=>k = g) w ((((((W2.setCell ⟨w.heap.size,0,none⟩ (.int .i64 r.n.taken)).setCell ⟨w.heap.size,1,none⟩ (.int .i64 r.n.late)).setCell ⟨w.heap.size,2,none⟩ (.int .i64 r.n.range)).setCell ⟨w.heap.size,3,none⟩ (.int .i64 r.n.full)).setCell ⟨w.heap.size,4,none⟩ (.int .i64 r.n.marks)).setCell ⟨w.heap.size,5,none⟩ (.int .i64 r.n.broken))):=by
  refine Kept.setCell ?_ ⟨w.heap.size,_,none⟩ _ (fun h=>absurd h (Nat.lt_irrefl _))
  refine Kept.setCell ?_ ⟨w.heap.size,_,none⟩ _ (fun h=>absurd h (Nat.lt_irrefl _))
  refine Kept.setCell ?_ ⟨w.heap.size,_,none⟩ _ (fun h=>absurd h (Nat.lt_irrefl _))
  refine Kept.setCell ?_ ⟨w.heap.size,_,none⟩ _ (fun h=>absurd h (Nat.lt_irrefl _))
  refine Kept.setCell ?_ ⟨w.heap.size,_,none⟩ _ (fun h=>absurd h (Nat.lt_irrefl _))
  refine Kept.setCell ?_ ⟨w.heap.size,_,none⟩ _ (fun h=>absurd h (Nat.lt_irrefl _))
  exact K2.out
 clear b0 b1 b2 b3 b4 b5 bf
 generalize (((((W2.setCell ⟨w.heap.size,0,none⟩ (.int .i64 r.n.taken)).setCell ⟨w.heap.size,1,none⟩ (.int .i64 r.n.late)).setCell ⟨w.heap.size,2,none⟩ (.int .i64 r.n.range)).setCell ⟨w.heap.size,3,none⟩ (.int .i64 r.n.full)).setCell ⟨w.heap.size,4,none⟩ (.int .i64 r.n.marks)).setCell ⟨w.heap.size,5,none⟩ (.int .i64 r.n.broken) = W at *
 refine leaves_cons (f:=43) (args:=#[.pointer (some ⟨g,0,none⟩)]) (by simp) (by simp [go_sem]) ?_
 refine (unlock_deferred muLib ⟨g,0,none⟩ .returning _ (H3.out.lockAt rfl) (H3.out.frozen _)).mono ?_
 rintro e u' w'' ⟨rfl,rfl,rfl⟩
 have hW':(W.setCell ⟨g,0,none⟩ (.int .i32 0)).heap[w.heap.size]? = some (.cells #[.int .i64 r.n.taken,.int .i64 r.n.late,.int .i64 r.n.range,.int .i64 r.n.full,.int .i64 r.n.marks,.int .i64 r.n.broken] 58 (0,0)):=by
  rw [heap_setCell_other _ _ _ _ (fun e=>hgB e.symm)];exact hW
 have H4:=H3.out.putLock 0
 have K4:=K3.out.setCell ⟨g,0,none⟩ (.int .i32 0) (fun _=>rfl)
 have e:(SCells.lock (r.lock 1) 0) = r:=by cases r;simp only at hlk;subst hlk;rfl
 rw [e] at H4
 generalize W.setCell ⟨g,0,none⟩ (.int .i32 0) = W' at *
 obtain ⟨b0,b1,b2,b3,b4,b5,bf⟩:=cells6At hW'
 exact ⟨countsV r.n,by simp [results,Tryz.results27,go_sem,b0,b1,b2,b3,b4,b5,countsV],rfl,H4,K4⟩
end Go.Proofs.YtcfngdnmpogaoaaGreat
namespace Go.Proofs.YtcfngdnmpogaoaaGreat
open Go.RowKit Go.MuLone
theorem setSrc_self (r:SCells) (n:Nat) (s:SSrc) (hs:r.src[n]? = some s):r.setSrc n s = r:=by
 have hn:n < r.src.length:=(List.getElem?_eq_some_iff.1 hs).1
 have:r.src.set n s = r.src:=List.ext_getElem? (fun i=>by
  rw [List.getElem?_set]
  split
  . rename_i h;subst h
    exact hs.symm
  . rfl)
 rw [SCells.setSrc,this]
abbrev markB (t:Int):List UInt8:=frameBytes 2 ⟨#[]⟩ t 0 0
def SCells.marked (r:SCells) (n:Nat) (s:SSrc) (t:Int):SCells:=(r.addMark.setSrc n (s.raised (clampT t))).moved
def SSrc.gone:SSrc:=⟨true,true,.slice none 0 0,0,false⟩
end Go.Proofs.YtcfngdnmpogaoaaGreat
namespace Go.Proofs.YtcfngdnmpogaoaaGreat
open Go.RowKit Go.MuLone
def pickZ (c n:Int):Int:=(if c < 0 then -(c + 1) else c) % n
abbrev srcO:SSrc:=⟨true,false,.slice none 0 0,0,false⟩
abbrev srcM (t:Int):SSrc:=⟨true,false,.slice none 0 0,t,true⟩
def stS (late:Int) (s0 s1 s2:SSrc) (lt:Int) (li:Bool) (m k:Int):SCells:=
 ⟨0,10,10,late,2,[s0,s1,s2,SSrc.zero,SSrc.zero,SSrc.zero,SSrc.zero,SSrc.zero],lt,li,.slice none 0 0,.slice none 0 0,⟨0,0,0,0,m,k⟩⟩
def maxZ (a b:Int):Int:=if b > a then b else a
end Go.Proofs.YtcfngdnmpogaoaaGreat
namespace Go.Proofs.YtcfngdnmpogaoaaGreat
open Go.RowKit Go.MuLone
variable {cs:Array Value} {g:Nat} {o:Obj} {t:TypeId} {w:World}
set_option maxHeartbeats 1600000
set_option maxRecDepth 20000
def winFirst (size slide t:Int):Int:=down (t - size) slide + slide
def winLast (slide t:Int):Int:=down t slide
theorem noValues_any (w:World) :
 Calls Tryz.prog 170 #[] w fun e w'=>e = .returned (.agg #[.int .i64 9223372036854775807,.int .i64 (-9223372036854775808)]) /\ Below w.heap.size w w':=by
 go_enter Tryz.func170,Tryz.ntmps170
 go_wp2
 exact bodyPost_ret (v:=.agg #[.int .i64 9223372036854775807,.int .i64 (-9223372036854775808)]) (by simp [results,Tryz.results170,go_sem]) rfl ⟨rfl,(Below.refl _ w).alloc (Nat.le_refl _) _⟩
def minV (a b:Int):Int:=if b < a then b else a
def maxV (a b:Int):Int:=if a < b then b else a
theorem joined_any (a b c d:Int) (w:World) :
 Calls Tryz.prog 151 #[.agg #[.int .i64 a,.int .i64 b],.agg #[.int .i64 c,.int .i64 d]] w fun e w'=>e = .returned (.agg #[.int .i64 (minV a c),.int .i64 (maxV b d)]) /\ Below w.heap.size w w':=by
 have key:∀ x y:Int,(c < a /\ x = c \/ ¬ c < a /\ x = a) -> (b < d /\ y = d \/ ¬ b < d /\ y = b) -> Calls Tryz.prog 151 #[.agg #[.int .i64 a,.int .i64 b],.agg #[.int .i64 c,.int .i64 d]] w fun e w'=>e = .returned (.agg #[.int .i64 x,.int .i64 y]) /\ Below w.heap.size w w':=by
  rintro x y (⟨h1,rfl⟩ | ⟨h1,rfl⟩) (⟨h2,rfl⟩ | ⟨h2,rfl⟩)
  all_goals
   go_enter Tryz.func151,Tryz.ntmps151
   go_wp2
   exact bodyPost_ret (v:=.agg #[.int .i64 _,.int .i64 _]) (by simp [results,Tryz.results151,go_sem]) rfl ⟨rfl,(((Below.refl _ w).alloc (Nat.le_refl _) _).alloc (by simp) _).alloc (by simp;omega) _⟩
 refine key _ _ ?_ ?_
 . unfold minV;split <;> simp_all
 . unfold maxV;split <;> simp_all
theorem newPane_any (first last:Int) (w:World) :
 Calls Tryz.prog 168 #[.agg #[.int .i64 first,.int .i64 last]] w fun e w'=>∃ P M,e = .returned (.pointer (some ⟨P,0,none⟩)) /\ w.heap.size <= P /\ w.heap.size <= M /\ P ≠ M /\
  w'.heap[P]? = some (.cells #[.int .i64 first,.int .i64 last,.int .i64 0,.int .i64 0,.int .i64 9223372036854775807,.int .i64 (-9223372036854775808),.map (some M)] 207 (0,0)) /\ w'.heap[M]? = some (.map #[] 0) /\ Below w.heap.size w w':=by
 have hmm:=@run_makeMap Tryz.prog
 go_enter Tryz.func168,Tryz.ntmps168
 go_wp2_with fail
 have c0:(w.alloc (.cells #[.int .i64 first,.int .i64 last] 202)).cell? ⟨w.heap.size,0,none⟩ = some (.int .i64 first):=by simp
 have c1:(w.alloc (.cells #[.int .i64 first,.int .i64 last] 202)).cell? ⟨w.heap.size,1,none⟩ = some (.int .i64 last):=by simp
 have hB1:Below w.heap.size w (w.alloc (.cells #[.int .i64 first,.int .i64 last] 202)):=(Below.refl _ w).alloc (Nat.le_refl _) _
 have hs1:w.heap.size < (w.alloc (.cells #[.int .i64 first,.int .i64 last] 202)).heap.size:=by simp
 generalize w.alloc (.cells #[.int .i64 first,.int .i64 last] 202) = W1 at *
 have hn0:=World.new_ne W1 ⟨w.heap.size,0,none⟩ c0
 have hn1:=World.new_ne W1 ⟨w.heap.size,1,none⟩ c1
 go_region_held3 (fun W=>W.cell? ⟨w.heap.size,0,none⟩ = some (.int .i64 first) /\ W.cell? ⟨w.heap.size,1,none⟩ = some (.int .i64 last)) (go_keep) (first | (go_at_call 170;refine (noValues_any _).mono ?_;rintro e w' ⟨rfl,hb⟩;have k0:w'.cell? ⟨w.heap.size,0,none⟩ = some (.int .i64 first):=(hb.cell (by simp;omega)).trans (by simp [*]);have k1:w'.cell? ⟨w.heap.size,1,none⟩ = some (.int .i64 last):=(hb.cell (by simp;omega)).trans (by simp [*])))
 . go_wp2
   go_ret
   have h1:W1.heap.size <= w'.heap.size:=hb.size
   have hbb:Below w.heap.size w w':=hB1.drew.trans (hb.mono (by show w.heap.size <= W1.heap.size;omega))
   exact ⟨w'.heap.size + 1,w'.heap.size,rfl,by omega,by omega,by omega,(two_new w' _ _).2,(two_new w' _ _).1,(hbb.alloc hbb.size _).alloc (by simp;omega) _⟩
 . go_wp2
   go_ret
   have h1:W1.heap.size + 1 <= w'.heap.size:=by have:=hb.size;simpa using this
   have hbb:Below w.heap.size w w':=((hB1.alloc hB1.size _).drew).trans (hb.mono (by simp;omega))
   refine ⟨w'.heap.size,W1.heap.size,rfl,by omega,by omega,by omega,heap_alloc_new w' _,?_,hbb.alloc hbb.size _⟩
   rw [Below.heap_alloc _ _ _ (by omega),hb.block _ (by simp)]
   exact heap_alloc_new W1 _
theorem blkCell (h:w.heap[g]? = some (.cells cs t (0,0))) {i:Nat} {v:Value} (hv:cs[i]? = some v):w.cell? ⟨g,i,none⟩ = some v:=by simp [World.cell?,h,hv]
theorem blkFrozen (h:w.heap[g]? = some (.cells cs t (0,0))) (i:Nat):w.frozen? ⟨g,i,none⟩ = false:=by simp [World.frozen?,h]
theorem blkLt (h:w.heap[g]? = some o):g < w.heap.size:=(Array.getElem?_eq_some_iff.1 h).1
theorem blkAlloc (h:w.heap[g]? = some o) (o':Obj):(w.alloc o').heap[g]? = some o:=by rw [Below.heap_alloc _ _ _ (blkLt h)];exact h
theorem blkBelow {w':World} (h:w.heap[g]? = some o) (hb:Below w.heap.size w w'):w'.heap[g]? = some o:=by rw [hb.block _ (blkLt h)];exact h
theorem blkPut (h:w.heap[g]? = some (.cells cs t (0,0))) (i:Nat) (v:Value):(w.setCell ⟨g,i,none⟩ v).heap[g]? = some (.cells (cs.setIfInBounds i v) t (0,0)):=heap_setCell_same w g i cs t v h
theorem blkOther (h:w.heap[g]? = some o) (k i:Nat) (v:Value) (hk:g ≠ k):(w.setCell ⟨k,i,none⟩ v).heap[g]? = some o:=by rw [heap_setCell_other _ _ _ _ hk];exact h
theorem mapBlock {w':World} {P:Program} {k:TypeId} {H:Type} {R:Value -> Option (DataW H × List MemPlace)} {b n:Nat} {D:DataW H} (h:w.ownsMap P k R b n D) (hb:w'.heap[b]? = w.heap[b]?):w'.ownsMap P k R b n D:=by
 obtain ⟨es,c,h1,h2⟩:=h
 exact ⟨es,c,by rw [hb];exact h1,h2⟩
theorem mapLt {P:Program} {k:TypeId} {H:Type} {R:Value -> Option (DataW H × List MemPlace)} {b n:Nat} {D:DataW H} (h:w.ownsMap P k R b n D):b < w.heap.size:=by
 obtain ⟨es,c,h1,h2⟩:=h
 exact blkLt h1
def paneCells (first last count sum least greatest:Int) (M:Nat):Array Value:=#[.int .i64 first,.int .i64 last,.int .i64 count,.int .i64 sum,.int .i64 least,.int .i64 greatest,.map (some M)]
theorem paneAt {P M:Nat} {first last count sum least greatest:Int} (h:w.heap[P]? = some (.cells (paneCells first last count sum least greatest M) 207 (0,0))) :
 w.cell? ⟨P,0,none⟩ = some (.int .i64 first) /\ w.cell? ⟨P,1,none⟩ = some (.int .i64 last) /\ w.cell? ⟨P,2,none⟩ = some (.int .i64 count) /\ w.cell? ⟨P,3,none⟩ = some (.int .i64 sum) /\ w.cell? ⟨P,4,none⟩ = some (.int .i64 least) /\ w.cell? ⟨P,5,none⟩ = some (.int .i64 greatest) /\ w.cell? ⟨P,6,none⟩ = some (.map (some M)) /\ (∀ j,w.frozen? ⟨P,j,none⟩ = false):=
 ⟨blkCell h rfl,blkCell h rfl,blkCell h rfl,blkCell h rfl,blkCell h rfl,blkCell h rfl,blkCell h rfl,blkFrozen h⟩
theorem itemAt {B:Nat} {k:Int} {key:ByteArray} {t v tag:Int} (h:w.heap[B]? = some (.cells #[.int .i64 k,.string key,.int .i64 t,.int .i64 v,.int .u32 tag] 28 (0,0))) :
 w.cell? ⟨B,0,none⟩ = some (.int .i64 k) /\ w.cell? ⟨B,1,none⟩ = some (.string key) /\ w.cell? ⟨B,2,none⟩ = some (.int .i64 t) /\ w.cell? ⟨B,3,none⟩ = some (.int .i64 v) /\ w.cell? ⟨B,4,none⟩ = some (.int .u32 tag):=
 ⟨blkCell h rfl,blkCell h rfl,blkCell h rfl,blkCell h rfl,blkCell h rfl⟩
theorem keyedU:Maps.Keyed Tryz.prog 26:=Maps.int_keyed Tryz.underlying26
end Go.Proofs.YtcfngdnmpogaoaaGreat
