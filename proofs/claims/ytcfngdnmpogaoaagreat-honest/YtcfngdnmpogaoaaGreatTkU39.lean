import Derived.Test.YtcfngdnmpogaoaaGreatTkT09
import Derived.RangeFuncNested
import Derived.RangeFuncBound
import Derived.RangeFuncCalls
import Derived.RangeFuncLeaves
import Derived.Shelf.Abstract
import Derived.Shelf.RegionOpen
import Derived.WalkKit
import Derived.OwnWalkIn
import Derived.TacticsInMore
import Derived.LoopNIn
import Derived.LoopIn
import Derived.Maps.OwnIn
import Derived.Sort.MapsRangeIn
import Derived.RangeFuncStops
import Derived.RangeFuncBox
import Derived.RangeFuncFrom
import Derived.Maps.AppendAt
import Derived.Test.YtcfngdnmpogaoaaGreatTkU38
import Derived.Test.YtcfngdnmpogaoaaGreatTkU14
import Derived.Test.YtcfngdnmpogaoaaGreatTkU28
import Derived.Shelf.SlSortCmp.NoneTotal
namespace Go.Proofs.YtcfngdnmpogaoaaGreat
open Go.RowKit Go.MuLone Go.Shelf Go.Maps
set_option maxHeartbeats 1000000
set_option maxRecDepth 100000
def CollectedU (D0:DataW Unit) (left:Lit->Bool) (ss:List Int):Prop:=ss.Nodup/\∀ x,x ∈ ss ↔ (has D0 (.int .u32 x)=true/\left (.int .u32 x)=false)
theorem CollectedU.start (D0:DataW Unit):CollectedU D0 (has D0) []:=⟨List.nodup_nil,fun x=>by cases has D0 (.int .u32 x) <;> simp⟩
theorem CollectedU.step {D0:DataW Unit} {left:Lit->Bool} {ss:List Int} (h:CollectedU D0 left ss) {x:Int} {y:DataW Unit} (hlk:left (.int .u32 x)=true) (hat:∀ zd,D0.atKey (.int .u32 x) zd=y) :
 CollectedU D0 (fun z=>left z && !z.sameKey (.int .u32 x)) (ss++[x]):=by
 have hhas:=has_true_of_atKey hat
 have hnew:x ∉ ss:=fun hx=>by have:=((h.2 x).1 hx).2;rw [hlk] at this;cases this
 refine ⟨List.nodup_append.2 ⟨h.1,by simp,fun a ha b hb=>by simp at hb;subst hb;exact fun e=>hnew (e ▸ ha)⟩,fun y=>?_⟩
 by_cases hy:y=x
 . subst hy;simp [hhas,Lit.sameKey]
 . simp [h.2 y,hy,Lit.sameKey]
attribute [local go_sem] Oper.semAt_some
theorem keysU_in (F:Fence) (n:Nat) (hf:F.fn 171) (hro:F.round=none) (hn:1<=n) (l Bm b nn:Nat) (D0:DataW Unit) (J Jx:List Int->World->Prop)
 (hY:∀ pre x W,J pre W->pre.length < Maps.size D0->YieldAt F (n - 1) Tryz.prog l #[.int .u32 x] W fun e W'=>
  (e=.returned (.bool true)/\J (pre++[x]) W'/\KeepsWalks W W')\/(e=.returned (.bool false)/\Jx (pre++[x]) W'))
 (W:World) (hJ:AbidesFrom W.heap.size J) (hm:W.cell? ⟨Bm,0,none⟩=some (.map (some b))) (hown:W.ownsMap Tryz.prog 26 (plainElem Tryz.prog 3) b nn D0) (h0:J [] W) :
 CallsIn F n Tryz.prog 171 #[.func (.yield l) #[] #[],.pointer (some ⟨Bm,0,none⟩)] W fun e W'=>(∃ v,e=.returned v) /\
  ((∃ ss:List Int,(ss.Nodup/\∀ x,x ∈ ss ↔ has D0 (.int .u32 x)=true)/\J ss W')\/(∃ pre:List Int,(pre.Nodup/\∀ x ∈ pre,has D0 (.int .u32 x)=true)/\Jx pre W')):=by
 refine callsIn_of_wp Tryz.func171 rfl hf ?_ hro
 simp only [Tryz.ntmps171,List.size_toArray,List.length_cons,List.length_nil,Nat.reduceAdd,Nat.reduceSub,Array.replicate_succ,Array.replicate_zero,List.push_toArray,List.append_toArray,List.nil_append,List.cons_append]
 gi_wp2_with (first
  | (gi_at_range;refine wpListIn_range_own _ rfl _ 218 rfl 26 3 keyedU Tryz.underlying218 _ b nn _ rfl hown ?_;intro w0 hrg0 hg0 hs0)
  | gi_in)
 go_frame
 gi_loopw [3] (fun _ wr=>∃ (left:Lit->Bool) (cnt:Nat) (ss:List Int),wr.ranges Tryz.prog 26 (plainElem Tryz.prog 3) b W.heap.size nn D0 left cnt/\ss.length+cnt<=Maps.size D0/\CollectedU D0 left ss/\J ss wr)
  (fun _ wr=>wr.rangeLeft b W.heap.size)
 case atStart=>
  exact ⟨_,_,[],hrg0,by simp,CollectedU.start D0,hJ [] W w0 none h0 hg0 (fun r e=>by cases e)⟩
 case round=>
  obtain ⟨left,cnt,ss,hrg,hcs,hC,hJs⟩:=hrel
  gi_wp2_with (first
   | (gi_at_next;refine wpListIn_next_ranges _ rfl _ rfl 26 keyedU _ (fun x:Int=>.int .u32 x) (fun x:Int=>.int .i64 x) (fun key kl hk=>by obtain ⟨x,hx,_⟩:=Maps.keyOf_int_inv Tryz.underlying26 hk;exact ⟨x,hx⟩) (fun v y hv=>by obtain ⟨c,rfl,_⟩:=plainElem_int_inv Tryz.underlying3 hv;exact ⟨c,rfl⟩) b W.heap.size nn _ _ _ rfl hrg ?_ ?_)
   | gi_in)
  . intro hc0 hl0
    gi_wp2
    go_end0
    exact ⟨⟨_,rfl⟩,.inl ⟨ss,⟨hC.1,fun x=>by rw [hC.2 x,hl0];simp⟩,hJs⟩⟩
  . intro x c kl yd yp w2 cnt2 hkey hlk hv hat hrg2 hlt hg2 hs2 hen
    obtain ⟨x',ex,rfl,_⟩:=Maps.keyOf_int_inv Tryz.underlying26 hkey
    obtain rfl:x=x':=by injection ex
    have hJ2:J ss w2:=hJ ss wr w2 (some W.heap.size) hJs hg2 (fun r e=>by cases e;exact ⟨Nat.le_refl _,hrg.iter_walk⟩)
    obtain ⟨fn,tmps,assign,body,hy,hR⟩:=hY ss x w2 hJ2 (by omega)
    clear hs2
    gi_wp2
    refine hR.mono ?_
    have hC2:=hC.step hlk hat
    rintro e W3 (⟨rfl,hJ3,hk3⟩ | ⟨rfl,hJx3⟩)
    . gi_wp2
      have hrg3:=hrg2.of_walks hk3
      go_roundw
      case rel=>exact ⟨_,cnt2,ss++[x],hrg3,by simp;omega,hC2,hJ3⟩
      case measure=>rw [hrg3.left_eq,hrg.left_eq];exact hlt
    . gi_wp2
      refine bodyPost_ret (results_none rfl _ _ _) rfl ?_
      exact ⟨⟨_,rfl⟩,.inr ⟨ss++[x],⟨hC2.1,fun y hy=>((hC2.2 y).1 hy).1⟩,hJx3⟩⟩
theorem keysU_stops (F:Fence) (n:Nat) (hf:F.fn 171) (hro:F.round=none) (hn:1<=n) (Bm b nn:Nat) (D0:DataW Unit) (w:World) (hBm:Bm < w.heap.size)
 (hm:w.cell? ⟨Bm,0,none⟩=some (.map (some b))) (hown:w.ownsMap Tryz.prog 26 (plainElem Tryz.prog 3) b nn D0) :
 SeqStops F n Tryz.prog 171 #[.pointer (some ⟨Bm,0,none⟩)] (fun x:Int=>.int .u32 x) (fun ss=>ss.Nodup/\∀ x,x ∈ ss ↔ has D0 (.int .u32 x)=true) (fun pre=>pre.Nodup/\∀ x ∈ pre,has D0 (.int .u32 x)=true) (Maps.size D0) w:=fun l J Jx W hW hJ _ hY h0=>by
 have hown':W.ownsMap Tryz.prog 26 (plainElem Tryz.prog 3) b nn D0:=by
  have hbl:=hown.lt
  obtain ⟨es,clock,hb,Ft,hs,hD⟩:=hown
  exact ⟨es,clock,(hW.block b hbl).trans hb,Ft,hs,hD⟩
 exact keysU_in F n hf hro hn l Bm b nn D0 J Jx hY W hJ ((hW.cell (p:=⟨Bm,0,none⟩) hBm).trans hm) hown' h0
theorem keys_of (mb:Option Nat) (w:World) :
 Calls Tryz.prog 153 #[.map mb] w fun e w'=>e=.returned (.func (.func 171) #[] #[.pointer (some ⟨w.heap.size,0,none⟩)])/\w'=w.alloc (.cells #[.map mb] 218):=by
 go_enter Tryz.func153,Tryz.ntmps153
 go_wp2
 go_ret
 exact ⟨rfl,rfl⟩
end Go.Proofs.YtcfngdnmpogaoaaGreat
namespace Go.Proofs.YtcfngdnmpogaoaaGreat
open Go.RowKit Go.MuLone Go.Shelf Go.Maps
set_option maxHeartbeats 1000000
set_option maxRecDepth 100000
attribute [local go_sem] Oper.semAt_some
theorem infoU32:(Tryz.prog.info? 26).map (fun i=>(i.zero,i.size,i.bytes))=some (some (.int .u32 0),1,4):=by kernel_rfl
theorem appendSeq_keys (B0 Bm b nn:Nat) (D0:DataW Unit) (p0:Option Addr) (n0 c0:Nat) (w:World) (hm:w.cell? ⟨Bm,0,none⟩=some (.map (some b))) (hown:w.ownsMap Tryz.prog 26 (plainElem Tryz.prog 3) b nn D0)
 (hB0:B0<=w.heap.size) (hv:w.ownsRow B0 26 1 (.slice p0 n0 c0) 0 []) (hN:Maps.size D0<=4294967296) :
 Calls Tryz.prog 152 #[.slice p0 n0 c0,.func (.func 171) #[] #[.pointer (some ⟨Bm,0,none⟩)]] w fun e w'=>
  ∃ v ss,e=.returned v/\(List.Nodup ss/\∀ x,x ∈ ss ↔ has D0 (.int .u32 x)=true)/\w'.ownsRow B0 26 1 v ss.length (ss.map fun x=>.int .u32 x)/\Below B0 w w':=by
 obtain ⟨i0,hi,hz0,hz1,hz2⟩:=info_parts infoU32
 have hBm:=World.block_lt_of_cell? w ⟨Bm,0,none⟩ hm
 refine (callsIn_wide (n:=9)).1 ?_
 refine callsIn_of_wp_marks Tryz.func152 rfl trivial ?_ rfl
 simp only [Tryz.ntmps152,List.size_toArray,List.length_cons,List.length_nil,Nat.reduceAdd,Nat.reduceSub,Array.replicate_succ,Array.replicate_zero,List.push_toArray,List.append_toArray,List.nil_append,List.cons_append]
 gi_wp2
 have hbx:=Boxed.new w 68 (.slice p0 n0 c0)
 have hm1:(w.alloc (.cells #[.slice p0 n0 c0] 68)).cell? ⟨Bm,0,none⟩=some (.map (some b)):=((((Below.refl w.heap.size w).alloc (Nat.le_refl _) _).cell hBm)).trans hm
 have hW1s:w.heap.size < (w.alloc (.cells #[.slice p0 n0 c0] 68)).heap.size:=by simp
 have hBm1:Bm < (w.alloc (.cells #[.slice p0 n0 c0] 68)).heap.size:=by simp;omega
 have hbel:Below B0 w (w.alloc (.cells #[.slice p0 n0 c0] 68)):=(Below.refl B0 w).alloc hB0 _
 have hown1:=hown.alloc (.cells #[.slice p0 n0 c0] 68)
 have hv1:=hv.alloc (.cells #[.slice p0 n0 c0] 68)
 generalize w.alloc (.cells #[.slice p0 n0 c0] 68)=W1 at *
 refine wpIn_rangeFunc_ownF (F:=Fence.wide) rfl (by decide) (gf:=171) (lb:=#[.pointer (some ⟨Bm,0,none⟩)]) rfl trivial (enters_of Tryz.func171 (by kernel_rfl) rfl)
  (encs:=fun x:Int=>#[.int .u32 x]) (Kp:=KeepsWalks) (N:=Maps.size D0) (w0:=W1)
  (keysU_stops Fence.wide (9 - 1) trivial rfl (by decide) Bm b nn D0 W1 hBm1 hm1 hown1) walksK_t (walksK_b (w:=W1)) (Below.refl _ _) (fun _=>rfl)
  (fun pre W=>(∃ v,Boxed W w.heap.size 68 v/\W.ownsRow B0 26 1 v pre.length (pre.map fun x=>.int .u32 x)/\True)/\Below B0 w W)
  (fun _ _ _=>False)
  (OwnFrom.and (Own.from (holdsRow_own B0 w.heap.size 68 26 1 (fun pre:List Int=>pre.length) (fun pre=>pre.map fun x=>.int .u32 x) (fun _ _=>True)) _) (ownFrom_below hB0 (by omega)))
  (fun _ _ _ _ _ hs _ _=>hs)
  ⟨⟨_,hbx,hv1,trivial⟩,hbel⟩
  (fun x=>{ tmps:=#[.slice p0 n0 c0,.func (.func 171) #[] #[.pointer (some ⟨Bm,0,none⟩)],.pointer (some ⟨w.heap.size,0,none⟩),undef,.slice none 0 0,.int .u32 x,.func (.func 171) #[] #[.pointer (some ⟨Bm,0,none⟩)],.int .u32 x,undef,undef,undef,undef,undef],defers:=[] }) ?assign ?body ?done ?stop
 case assign=>
  intro l x W K hK
  gi_wp2
  exact hK
 case body=>
  rintro l pre x W ⟨⟨v,hv2,hrow,-⟩,hB⟩ hlt
  have hc:=hv2.cell
  have hsz:=hB.size
  gi_wp2_with (first | (gi_at_builtin;refine wpListIn_append_own _ rfl _ _ 68 rfl B0 26 i0 (.int .u32 0) 1 4 Tryz.underlying68 hi hz0 hz1 hz2 rfl (by decide) _ _ _ rfl (hrow.alloc _) ⟨W.heap.size,0,none⟩ 1 1 [.int .u32 x] rfl rfl (cell_one_new _ _ _) (by simp [Value.oneCell']) (by simp only [maxLen];omega) (by omega) (by simp;omega) ?_;intro v' w1 hown' hgrow _;obtain ⟨g',cap',rfl⟩:=ownsRow_succ hown';obtain ⟨hv3,hv4,hr2,hk2,hb2⟩:=hv2.appended (by decide) hrow (by omega) hB0 hown' hgrow;have hc1:=hv3.cell;have hf1:=hv3.frozen) | gi_in)
  exact ⟨hk2,hk2.walks,⟨_,hv4,by simpa using hr2,trivial⟩,hB.trans hb2⟩
 case done=>
  rintro D ys W hD hS ⟨⟨v,hv2,hrow,-⟩,hB⟩ hK
  have hc:=hv2.cell
  gi_wp2
  refine ⟨by simp,.inl ⟨_,_,rfl,run_takeDeferred hK,?_⟩⟩
  exact ⟨_,results_tmp rfl _ _ _,⟨v,ys,rfl,hS,ownsRow_putObj hrow _ hK rfl,hB.trans (belowK_b (w:=W1) (by omega) W D _ _ (by omega) hK rfl rfl)⟩⟩
 case stop=>
  rintro D c pre W _ _ h _
  exact h.elim
end Go.Proofs.YtcfngdnmpogaoaaGreat
namespace Go.Proofs.YtcfngdnmpogaoaaGreat
open Go.RowKit Go.MuLone Go.Shelf Go.Maps
theorem step_len {P:Program} {ops:Array Oper} {o:Oper} {a:Act} {w:World} {K:Act->World->Prop} {Q:Exit->Act->World->Prop} {E:Prop} (hg:o.guard=none) (m:Operand) (t:TypeId)
 (hop:o.op=Op.call { callee:=Callee.builtin Builtin.len,args:=#[m],argTypes:=#[t] }) (k e:TypeId) (ht:P.underlying t=some (.map k e)) (R:Value->Option (DataW Unit × List MemPlace)) (b n:Nat) (D:DataW Unit)
 (hm:a.eval m=.map (some b)) (hown:w.ownsMap P k R b n D) (h:K (a.put o.dst (.int .i64 (Maps.size D))) w) :
 if Region.wanted o (yielded ops a.tmps)=true then Oper.wp P o a w K Q else E:=by
 have hw:Region.wanted o (yielded ops a.tmps)=true:=by simp [Region.wanted,hg]
 rw [if_pos hw]
 unfold Oper.wp
 simp [execOp,hop,resolve,invoke,builtin,hm,hown.len ht o.type,Result.andThen]
 exact h
theorem enterKeys:∀ (vs:Array Value) (w:World),(callFunc 153 vs).run Tryz.prog w=.ok (.enter 153 vs) w:=enters_of Tryz.func153 (by kernel_rfl) rfl
theorem enterAppSeq:∀ (vs:Array Value) (w:World),(callFunc 152 vs).run Tryz.prog w=.ok (.enter 152 vs) w:=enters_of Tryz.func152 (by kernel_rfl) rfl
end Go.Proofs.YtcfngdnmpogaoaaGreat
namespace Go.Proofs.YtcfngdnmpogaoaaGreat
open Go.RowKit Go.MuLone Go.Shelf Go.Maps
variable {D:DataW Unit}
set_option maxHeartbeats 3200000
set_option maxRecDepth 20000
theorem appSeq_any (TM S Bm c n:Nat) (D:DataW Unit) (Z:Array Value) (w W:World) (hb:Below w.heap.size w W) (hT:W.ownsMap Tryz.prog 26 (plainElem (H:=Unit) Tryz.prog 3) TM n D) (hn:n<=4294967296)
 (hS:W.heap[S]?=some (.cells Z 26 (0,0))) (hZ:Z.size=c*1) (hc:c<=maxLen) (hSw:w.heap.size<=S) (hBm:W.cell? ⟨Bm,0,none⟩=some (.map (some TM))) :
 Calls Tryz.prog 152 #[.slice (some ⟨S,0,none⟩) 0 c,.func (.func 171) #[] #[.pointer (some ⟨Bm,0,none⟩)]] W fun e w'=>
  ∃ v ss,e=.returned v/\(List.Nodup ss/\∀ x,x ∈ ss ↔ has D (.int .u32 x)=true)/\w'.ownsRow w.heap.size 26 1 v ss.length (ss.map fun x=>.int .u32 x)/\Below w.heap.size w w':=by
 refine (appendSeq_keys w.heap.size Bm TM n D (some ⟨S,0,none⟩) 0 c W hBm hT hb.size ⟨rfl,.inr ⟨S,c,Z,rfl,hSw,hS,Nat.zero_le _,hc,hZ,rfl⟩⟩ (Nat.le_trans hT.size_le hn)).mono ?_
 rintro e w' ⟨v,ss,rfl,h1,h2,h3⟩
 exact ⟨v,ss,rfl,h1,h2,hb.trans h3⟩
theorem keys_of_has {R:Value->Option (DataW Unit × List MemPlace)} {w:World} {b n:Nat} (h:w.ownsMap Tryz.prog 26 R b n D):∃ es:List (Lit × DataW Unit),D=.map es/\∀ x:Int,has D (.int .u32 x)=true->0<=x/\∃ p ∈ es,p.1=.int .u32 x:=by
 obtain ⟨es,rfl,_,hk⟩:=ownsMap_keys h
 refine ⟨es,rfl,fun x hx=>?_⟩
 simp only [has,List.any_eq_true] at hx
 obtain ⟨p,hp,he⟩:=hx
 obtain ⟨y,hy,h1,_⟩:=hk p hp
 rw [hy] at he
 have hyx:y=x:=by simp [Lit.sameKey] at he;omega
 subst hyx
 exact ⟨h1,p,hp,hy⟩
theorem keys_le {R:Value->Option (DataW Unit × List MemPlace)} {w:World} {b n:Nat} {ss:List Int} (h:w.ownsMap Tryz.prog 26 R b n D) (hn:ss.Nodup) (hs:∀ x ∈ ss,has D (.int .u32 x)=true):ss.length<=n:=by
 have hl:=h.size_le
 obtain ⟨es,rfl,hk⟩:=keys_of_has h
 rw [Maps.size_eq] at hl
 have h1:ss.length<=(es.map fun p=>match p.1 with | .int _ x=>x | _=>0).length:=hn.length_le_of_subset (fun x hx=>by
  obtain ⟨-,p,hp,he⟩:=hk x (hs x hx)
  exact List.mem_map.2 ⟨p,hp,by rw [he]⟩)
 rw [List.length_map] at h1
 omega
theorem perm_all {d d':Array Int} (h:Sort.PermIn 0 d.size d d'):d'.size=d.size/\d'.toList.Perm d.toList:=by
 obtain ⟨h1,_,h3⟩:=h
 refine ⟨h1,?_⟩
 rw [show d.extract 0 d.size=d by simp] at h3
 rw [<- h1,show d'.extract 0 d'.size=d' by simp] at h3
 exact h3
theorem rising_of {d':Array Int} (h:Sort.SortedIn ltU 0 d'.size d') (hn:d'.toList.Nodup):d'.toList.Pairwise (· < ·):=by
 rw [List.pairwise_iff_getElem]
 intro i j hi hj hij
 simp only [Array.length_toList] at hi hj
 have h1:=ltU_no.1 (h i j (Nat.zero_le _) hij hj)
 have h2:=List.pairwise_iff_getElem.1 hn i j (by simpa using hi) (by simpa using hj) hij
 simp only [Array.getElem_toList] at h2 ⊢
 rw [getElem!_pos d' i hi,getElem!_pos d' j hj] at h1
 omega
theorem told_tags {f:Int->Nat} {ss:List Int} {l:List Int} (hk:∀ x:Int,has D (.int .u32 x)=true->0<=x) (hf:TagsC D f) (hs:∀ x,x ∈ ss ↔ has D (.int .u32 x)=true) (hp:l.Perm ss) (hr:l.Pairwise (· < ·)) :
 ∃ m:List Nat,l.map (Value.int .u32)=m.map tagV/\m.Pairwise (· < ·)/\∀ x:Nat,x ∈ m ↔ 0 < f x:=by
 have h0:∀ x ∈ l,0<=x:=fun x hx=>hk x ((hs x).1 (hp.mem_iff.1 hx))
 refine ⟨l.map Int.toNat,?_,?_,fun x=>?_⟩
 . rw [List.map_map]
   refine List.map_congr_left fun x hx=>?_
   show Value.int .u32 x=Value.int .u32 ((x.toNat:Nat):Int)
   rw [Int.toNat_of_nonneg (h0 x hx)]
 . rw [List.pairwise_map]
   refine List.Pairwise.imp_of_mem (fun {a b} ha hb hab=>?_) hr
   have:=h0 a ha
   omega
 . rw [List.mem_map]
   constructor
   . rintro ⟨y,hy,rfl⟩
     have h1:=(hs y).1 (hp.mem_iff.1 hy)
     rw [hf.1,decide_eq_true_iff] at h1
     rw [Int.toNat_of_nonneg (h0 y hy)]
     exact h1
   . intro h1
     exact ⟨(x:Int),hp.mem_iff.2 ((hs x).2 (by rw [hf.1,decide_eq_true_iff];exact h1)),by simp⟩
theorem rising_any:RisingOk:=by
 intro TM f w hTC
 obtain ⟨n,D,hn,hT,hf⟩:=hTC
 obtain ⟨i0,hi,hz0,hz1,hz2⟩:=info_parts infoU32
 obtain ⟨c,hc⟩:∃ c,Maps.size D=c:=⟨_,rfl⟩
 have hcn:c<=4294967296:=by have:=hT.size_le;omega
 obtain ⟨Z,hZ,hmk⟩:∃ Z:Array Value,Z.size=c*1/\∀ W:World,(Instr.makeSlice 68 (.int .i64 0) (.int .i64 (c:Int))).run Tryz.prog W=.ok (.slice (some ⟨W.heap.size,0,none⟩) 0 c) (W.alloc (.cells Z 26)):=by
  refine ⟨madeCells (Value.cells (.int .u32 0)) (c*i0.size),?_,fun W=>?_⟩
  . rw [size_madeCells,hz1]
  . have h:=run_make (P:=Tryz.prog) W 68 26 i0 (.int .u32 0) Tryz.underlying68 hi hz0 .i64 .i64 0 (c:Int) (by omega) (by omega) (by rw [hz2];omega) (by omega)
    simpa using h
 have hk0:∀ x:Int,has D (.int .u32 x)=true->0<=x:=fun x hx=>by
  obtain ⟨es,rfl,hk⟩:=keys_of_has hT
  exact (hk x hx).1
 have HF:Hid ((∀ x:Int,has D (.int .u32 x)=true->0<=x)/\TagsC D f):=⟨hk0,hf⟩
 have hcm:c<=maxLen:=by simp only [maxLen];omega
 have hA:=appSeq_any TM w.heap.size (w.heap.size+1) c n D Z w ((w.alloc (.cells Z 26)).alloc (.cells #[.map (some TM)] 218)).drew ((((Below.refl _ w).alloc (Nat.le_refl _) _).alloc (by simp) _).drew) (((hT.alloc _).alloc _).drew) hn (two_new w _ _).1 hZ hcm (Nat.le_refl _) (by rw [World.cell?_drew];exact blkCell (two_new w _ _).2 rfl)
 have hB:=appSeq_any TM (w.heap.size+1) w.heap.size c n D Z w ((w.alloc (.cells #[.map (some TM)] 218)).alloc (.cells Z 26)).drew ((((Below.refl _ w).alloc (Nat.le_refl _) _).alloc (by simp) _).drew) (((hT.alloc _).alloc _).drew) hn (two_new w _ _).2 hZ hcm (by omega) (by rw [World.cell?_drew];exact blkCell (two_new w _ _).1 rfl)
 clear hk0 hf
 go_enter Tryz.func129,Tryz.ntmps129
 go_upto_region 1 with fail
 go_region_law (first
  | (refine step_len rfl _ _ rfl 26 3 Tryz.underlying218 _ TM n D rfl (by first | exact hT | exact hT.alloc _ | exact hT.drew | exact (hT.drew).alloc _) ?_;rw [hc])
  | (refine step_call1 rfl 153 _ _ rfl enterKeys (.map (some TM)) rfl _ (keys_of _ _) ?_;rintro e w1 ⟨rfl,rfl⟩;refine ⟨_,rfl,?_⟩)
  | (refine step_call2 rfl 152 _ _ _ rfl enterAppSeq (.slice (some ⟨w.heap.size,0,none⟩) 0 c) (.func (.func 171) #[] #[.pointer (some ⟨w.heap.size+1,0,none⟩)]) rfl rfl _ hA ?_;rintro e w2 ⟨v,ss,rfl,hss,hr2,hb2⟩;refine ⟨_,rfl,?_⟩)
  | (refine step_call2 rfl 152 _ _ _ rfl enterAppSeq (.slice (some ⟨w.heap.size+1,0,none⟩) 0 c) (.func (.func 171) #[] #[.pointer (some ⟨w.heap.size,0,none⟩)]) rfl rfl _ hB ?_;rintro e w2 ⟨v,ss,rfl,hss,hr2,hb2⟩;refine ⟨_,rfl,?_⟩))
 all_goals
  have HSS:=hid hss
  have HB2:=hid hb2
  have HR2:=hid hr2
  clear hA hB hmk hss hb2 hr2
  rcases HR2.out.2 with ⟨rfl,h0⟩ | ⟨g,cap,cur,rfl,hg,hgc,-⟩
  . go_wp2_with fail
    refine (sort_none _ _ _).mono ?_
    rintro e W3 ⟨rfl,rfl⟩
    go_wp2
    go_ret
    have hse:ss=[]:=List.eq_nil_of_length_eq_zero h0
    subst hse
    obtain ⟨m,hm1,hm2,hm3⟩:=told_tags HF.out.1 HF.out.2 HSS.out.2 (List.Perm.refl []) List.Pairwise.nil
    exact ⟨_,_,_,m,rfl,by rw [<- hm1];exact .inl ⟨rfl,rfl⟩,hm2,hm3,(fun k hk=>by simp [Value.ownBlock] at hk),HB2.out⟩
  . have hrow:=Row.ofOwns HR2.out
    have hh:=row_holds hrow
    have hsz:ss.toArray.size=ss.length:=by simp
    have hcall:=sort32 g 0 cap ss.toArray w2 hh.2.1 hh.2.2 (by
     have:=HR2.out.1
     rw [hsz]
     have hlen:ss.length<=4294967296:=by
      have h9:=keys_le hT HSS.out.1 (fun x hx=>(HSS.out.2 x).1 hx)
      omega
     omega)
    rw [hsz] at hcall
    have HC:=hid hcall
    clear hcall hh hgc
    go_wp2_with fail
    refine HC.out.mono ?_
    rintro e W3 ⟨rfl,d',h1,h2,h3⟩
    have H1:Hid (Sort.At encU w2 g 0 d' W3/\Sort.PermIn 0 ss.toArray.size ss.toArray d'/\Sort.SortedIn ltU 0 ss.length d'):=⟨h1,by rw [hsz];exact h2,h3⟩
    clear h1 h2 h3 HC
    go_wp2
    go_ret
    obtain ⟨hAt,hP,hS⟩:=H1.out
    obtain ⟨hp1,hp2⟩:=perm_all hP
    have hnd:=hp2.nodup_iff.2 HSS.out.1
    obtain ⟨m,hm1,hm2,hm3⟩:=told_tags (l:=d'.toList) HF.out.1 HF.out.2 HSS.out.2 hp2 (rising_of (by rw [hp1,hsz];exact hS) hnd)
    have hr3:=At.row hAt hrow hp1
    have hk3:=At.kept hAt
    refine ⟨_,_,_,m,rfl,by rw [<- hm1];exact hr3,hm2,hm3,(fun k hk=>by simp only [Value.ownBlock,Option.some.injEq] at hk;omega),?_⟩
    exact HB2.out.trans (hk3.toBelow HB2.out.size (fun k hk e=>by omega))
end Go.Proofs.YtcfngdnmpogaoaaGreat
namespace Go.Proofs.YtcfngdnmpogaoaaGreat
open Go.Shelf Go.RowKit Go.MuLone Go.Sort
def cmpP (p q:WinP):Int:=cmpN p.w.key p.w.start q.w.key q.w.start
theorem ltP (p q:WinP):ltOf cmpP p q=true ↔ ltW p.w q.w:=by
 unfold ltOf
 rw [decide_eq_true_iff]
 exact cmpN_lt p.w q.w
theorem ltP_no (p q:WinP):ltOf cmpP p q=false ↔ ¬ ltW p.w q.w:=by
 rw [<- ltP];simp
theorem ltW_congr {x y z:Win} (h1:x.start=y.start) (h2:x.key=y.key) (h:ltW x z):ltW y z:=by
 rw [ltW_iff] at h ⊢
 rw [<- h1,<- h2];exact h
theorem swoP:SWO (ltOf cmpP) where
 irrefl x:=by rw [ltP_no];exact ltW_irrefl _
 trans x y z h1 h2:=by rw [ltP] at *;exact ltW_trans h1 h2
 ntrans x y z h1 h2:=by
  rw [ltP_no] at *
  intro h3
  by_cases h4:ltW y.w x.w
  . exact h2 (ltW_trans h4 h3)
  . obtain ⟨e1,e2⟩:=ltW_total h1 h4
    exact h2 (ltW_congr e1 e2 h3)
theorem aggW:∀ w,(isAgg 70).run Tryz.prog w=.ok true w:=fun _=>by kernel_rfl
theorem sizeW:∀ w,(Go.sizeOf 70).run Tryz.prog w=.ok 7 w:=fun _=>by kernel_rfl
theorem lays_byEnd (blk off size:Nat) (w:World):CmpLays Tryz.prog 75 #[] encW 7 cmpP blk off size w:=fun _ _ _ _ x y=>byEnd_any x.w.key x.w.start x.w.cnt x.w.sum x.w.lo x.w.hi (.slice x.a x.n x.c) y.w.key y.w.start y.w.cnt y.w.sum y.w.lo y.w.hi (.slice y.a y.n y.c) _
theorem sortWins (g off cap n:Nat) (ps:List WinP) (w:World) (h:Row w 70 7 (.slice (some ⟨g,off,none⟩) n cap) ((ps.map WinP.x).flatMap wxCells)) (hn:ps.length < 4611686018427387904) :
 Calls Tryz.prog 74 #[.slice (some ⟨g,off,none⟩) n cap,.func (.func 75) #[] #[]] w fun e w'=>e=.returned (.tuple #[])/\∃ (qs:List WinP) (m:Nat) (os:Array Obj),qs.Perm ps/\qs.Pairwise (fun x y=>¬ ltW y.w x.w)/\w'=sortWorldK encW 7 w g off m qs.toArray os:=by
 obtain ⟨hl,hH,hg⟩:=holds_wins h
 have eg:=enters_of Tryz.func75 (by kernel_rfl) rfl
 have hcon:=AnyQ.slices_SortFunc Tryz.sortW 7 aggW sizeW encW encW_len (fun x v hv=>by
  simp only [encW,wxCells,WinP.x,List.mem_cons,List.not_mem_nil,or_false] at hv
  rcases hv with rfl | rfl | rfl | rfl | rfl | rfl | rfl <;> rfl) cmpP swoP 75 #[] g off cap ps.toArray w eg (lays_byEnd g off _ w) hH hg (by simpa using hn)
 have hs:ps.toArray.size=n:=by rw [hl];simp
 rw [hs] at hcon
 refine Calls.mono hcon ?_
 rintro e w' ⟨rfl,d',m,os,hp,hso,rfl⟩
 obtain ⟨p1,_,p3⟩:=hp
 have hd:d'.size=n:=by omega
 refine ⟨rfl,d'.toList,m,os,?_,?_,rfl⟩
 . have e1:d'.extract 0 n=d':=by rw [<- hd];exact Array.extract_size
   have e2:ps.toArray.extract 0 n=ps.toArray:=by rw [<- hs];exact Array.extract_size
   rw [e1,e2] at p3
   exact p3
 . rw [List.pairwise_iff_getElem]
   intro i j hi hj hij
   have hj2:j < n:=by rw [<- hd];simpa using hj
   have:=hso i j (Nat.zero_le _) hij hj2
   rw [ltP_no,getElem!_pos d' j (by omega),getElem!_pos d' i (by omega)] at this
   simpa using this
end Go.Proofs.YtcfngdnmpogaoaaGreat
namespace Go.Proofs.YtcfngdnmpogaoaaGreat
open Go.Shelf Go.RowKit Go.MuLone Go.Sort
theorem sort_ok:SortOk where
 some:=fun g off cap n ps w h hn=>sortWins g off cap n ps w h hn
 void:=fun w=>AnyF.slices_SortFunc_none (P:=Tryz.prog) (ρ:=Tryz.sortW_ren) { Tryz.sortW with } none 0 (.func (.func 75) #[] #[]) w
end Go.Proofs.YtcfngdnmpogaoaaGreat
