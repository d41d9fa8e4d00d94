import Derived.Test.YtcfngdnmpogaoaaGreatTkT08
import Derived.Test.YtcfngdnmpogaoaaGreatTkT09
import Derived.Lib.SliceRun
import Derived.Test.YtcfngdnmpogaoaaGreatTkT07
namespace Go.Proofs.YtcfngdnmpogaoaaGreat
open Go.RowKit Go.MuLone
set_option maxHeartbeats 1600000
set_option maxRecDepth 20000
def runPtrs (Rs:List Nat):List Value:=Rs.map fun R=>.pointer (some ⟨R,0,none⟩)
theorem runPtrs_len (Rs:List Nat):(runPtrs Rs).length = Rs.length:=by simp [runPtrs]
theorem indexFunc_E (B:Nat) (Rs:List Nat) (q:Nat -> Bool) (sv:Value) (w:World) (hrow:Row w 150 1 sv (runPtrs Rs)) (hlen:Rs.length <= 4611686018427387904)
 (hf:∀ (m R:Nat),R ∈ Rs -> Calls Tryz.prog 142 #[.pointer (some ⟨R,0,none⟩),.pointer (some ⟨B,0,none⟩)] (w.drewN m) fun e w'=>e = .returned (.bool (q R)) /\ ∃ m',w' = w.drewN m') :
 Calls Tryz.prog 160 #[sv,.func (.func 142) #[] #[.pointer (some ⟨B,0,none⟩)]] w fun e w'=>((∃ i:Nat,e = .returned (.int .i64 (i:Int)) /\ (∃ R,Rs[i]? = some R /\ q R = true) /\ ∀ (j:Nat) R,j < i -> Rs[j]? = some R -> q R = false) \/ (e = .returned (.int .i64 (-1)) /\ ∀ R ∈ Rs,q R = false)) /\ ∃ m,w' = w.drewN m:=by
 by_cases hR:Rs = []
 . subst hR
   obtain ⟨a,c,rfl,-⟩:=hrow.slice
   go_enter Tryz.func160,Tryz.ntmps160
   simp only [runPtrs,List.map_nil,List.length_nil]
   go_wp2
   refine wp_loop_rounds 1 ?_
   rw [rounds_succ]
   go_wp2
   go_ret
   exact ⟨.inr ⟨rfl,fun R hR=>by simp at hR⟩,0,rfl⟩
 . obtain ⟨g,o,n,c,rfl,hn,hnc⟩:=hrow.shape (by unfold runPtrs;simpa using hR)
   have hn':n = Rs.length:=by unfold runPtrs at hn;simp at hn;omega
   subst hn'
   have HF:=hid hf
   have HC:Hid (∀ (m t R:Nat),Rs[t]? = some R -> (w.drewN m).cell? ⟨g,o + t,none⟩ = some (.pointer (some ⟨R,0,none⟩))):=fun m t R ht=>by
    have:=hrow.cell t (by have:=(List.getElem?_eq_some_iff.1 ht).1;omega)
    rw [runPtrs,List.getElem?_map,ht] at this
    rw [World.cell?_drewN];exact this
   clear hf hrow hn hR
   go_enter Tryz.func160,Tryz.ntmps160
   go_wp2
   go_loopw [8] (fun i wr=>∃ k m:Nat,k <= Rs.length /\ i = .int .i64 (k:Int) /\ wr = w.drewN m /\ Hid (∀ (j:Nat) R,j < k -> Rs[j]? = some R -> q R = false)) (fun i _=>Rs.length - (intOf i).toNat)
   case atStart=>exact ⟨0,0,Nat.zero_le _,rfl,rfl,fun j R h=>by omega⟩
   case round=>
    obtain ⟨k,m,hk,rfl,rfl,HI⟩:=hrel
    by_cases hlt:k < Rs.length
    . have ht:Rs[k]? = some Rs[k]:=List.getElem?_eq_getElem hlt
      have c0:=HC.out m k _ ht
      have hq:=HF.out m Rs[k] (by simp)
      generalize hRk:Rs[k] = R at *
      have HT:=hid ht
      clear ht hRk
      have hkn:(k:Int) < (Rs.length:Int):=by omega
      cases hqR:q R with
      | true=>
        rw [hqR] at hq
        have HQ:=hid hqR
        clear hqR
        go_wp2_with fail
        refine hq.mono ?_
        rintro e W ⟨rfl,m',rfl⟩
        go_wp2
        go_ret
        exact ⟨.inl ⟨k,rfl,⟨R,HT.out,HQ.out⟩,HI.out⟩,m',rfl⟩
      | false=>
        rw [hqR] at hq
        have HQ:=hid hqR
        clear hqR
        go_wp2_with fail
        refine hq.mono ?_
        rintro e W ⟨rfl,m',rfl⟩
        go_wp2
        go_roundw
        case rel=>
         refine ⟨k + 1,m',by omega,by go_num,rfl,fun j R' hj hR'=>?_⟩
         by_cases hjk:j = k
         . subst hjk;rw [HT.out] at hR';cases hR';exact HQ.out
         . exact HI.out j R' (by omega) hR'
        case measure=>simp [intOf];omega
    . have hkn:¬ ((k:Int) < (Rs.length:Int)):=by omega
      go_wp2
      go_ret
      refine ⟨.inr ⟨rfl,fun R hR=>?_⟩,m,rfl⟩
      obtain ⟨j,hj,rfl⟩:=List.mem_iff_getElem.1 hR
      exact HI.out j _ (by omega) (List.getElem?_eq_getElem hj)
theorem indexFunc_P (B:Nat) (Rs:List Nat) (q:Nat -> Bool) (sv:Value) (w:World) (hrow:Row w 150 1 sv (runPtrs Rs)) (hlen:Rs.length <= 4611686018427387904)
 (hf:∀ (m R:Nat),R ∈ Rs -> Calls Tryz.prog 162 #[.pointer (some ⟨R,0,none⟩),.pointer (some ⟨B,0,none⟩)] (w.drewN m) fun e w'=>e = .returned (.bool (q R)) /\ ∃ m',w' = w.drewN m') :
 Calls Tryz.prog 160 #[sv,.func (.func 162) #[] #[.pointer (some ⟨B,0,none⟩)]] w fun e w'=>((∃ i:Nat,e = .returned (.int .i64 (i:Int)) /\ (∃ R,Rs[i]? = some R /\ q R = true) /\ ∀ (j:Nat) R,j < i -> Rs[j]? = some R -> q R = false) \/ (e = .returned (.int .i64 (-1)) /\ ∀ R ∈ Rs,q R = false)) /\ ∃ m,w' = w.drewN m:=by
 by_cases hR:Rs = []
 . subst hR
   obtain ⟨a,c,rfl,-⟩:=hrow.slice
   go_enter Tryz.func160,Tryz.ntmps160
   simp only [runPtrs,List.map_nil,List.length_nil]
   go_wp2
   refine wp_loop_rounds 1 ?_
   rw [rounds_succ]
   go_wp2
   go_ret
   exact ⟨.inr ⟨rfl,fun R hR=>by simp at hR⟩,0,rfl⟩
 . obtain ⟨g,o,n,c,rfl,hn,hnc⟩:=hrow.shape (by unfold runPtrs;simpa using hR)
   have hn':n = Rs.length:=by unfold runPtrs at hn;simp at hn;omega
   subst hn'
   have HF:=hid hf
   have HC:Hid (∀ (m t R:Nat),Rs[t]? = some R -> (w.drewN m).cell? ⟨g,o + t,none⟩ = some (.pointer (some ⟨R,0,none⟩))):=fun m t R ht=>by
    have:=hrow.cell t (by have:=(List.getElem?_eq_some_iff.1 ht).1;omega)
    rw [runPtrs,List.getElem?_map,ht] at this
    rw [World.cell?_drewN];exact this
   clear hf hrow hn hR
   go_enter Tryz.func160,Tryz.ntmps160
   go_wp2
   go_loopw [8] (fun i wr=>∃ k m:Nat,k <= Rs.length /\ i = .int .i64 (k:Int) /\ wr = w.drewN m /\ Hid (∀ (j:Nat) R,j < k -> Rs[j]? = some R -> q R = false)) (fun i _=>Rs.length - (intOf i).toNat)
   case atStart=>exact ⟨0,0,Nat.zero_le _,rfl,rfl,fun j R h=>by omega⟩
   case round=>
    obtain ⟨k,m,hk,rfl,rfl,HI⟩:=hrel
    by_cases hlt:k < Rs.length
    . have ht:Rs[k]? = some Rs[k]:=List.getElem?_eq_getElem hlt
      have c0:=HC.out m k _ ht
      have hq:=HF.out m Rs[k] (by simp)
      generalize hRk:Rs[k] = R at *
      have HT:=hid ht
      clear ht hRk
      have hkn:(k:Int) < (Rs.length:Int):=by omega
      cases hqR:q R with
      | true=>
        rw [hqR] at hq
        have HQ:=hid hqR
        clear hqR
        go_wp2_with fail
        refine hq.mono ?_
        rintro e W ⟨rfl,m',rfl⟩
        go_wp2
        go_ret
        exact ⟨.inl ⟨k,rfl,⟨R,HT.out,HQ.out⟩,HI.out⟩,m',rfl⟩
      | false=>
        rw [hqR] at hq
        have HQ:=hid hqR
        clear hqR
        go_wp2_with fail
        refine hq.mono ?_
        rintro e W ⟨rfl,m',rfl⟩
        go_wp2
        go_roundw
        case rel=>
         refine ⟨k + 1,m',by omega,by go_num,rfl,fun j R' hj hR'=>?_⟩
         by_cases hjk:j = k
         . subst hjk;rw [HT.out] at hR';cases hR';exact HQ.out
         . exact HI.out j R' (by omega) hR'
        case measure=>simp [intOf];omega
    . have hkn:¬ ((k:Int) < (Rs.length:Int)):=by omega
      go_wp2
      go_ret
      refine ⟨.inr ⟨rfl,fun R hR=>?_⟩,m,rfl⟩
      obtain ⟨j,hj,rfl⟩:=List.mem_iff_getElem.1 hR
      exact HI.out j _ (by omega) (List.getElem?_eq_getElem hj)
end Go.Proofs.YtcfngdnmpogaoaaGreat
namespace Go.Proofs.YtcfngdnmpogaoaaGreat
open Go.RowKit Go.MuLone
set_option maxHeartbeats 1600000
set_option maxRecDepth 20000
def keyEq (a b:ByteArray):Bool:=a.toList == b.toList
theorem keyEq_iff (a b:ByteArray):keyEq a b = true ↔ a = b:=by
 unfold keyEq
 rw [beq_iff_eq,ByteArray.toList_eq,ByteArray.toList_eq]
 constructor
 . intro h
   cases a;cases b
   simp only [ByteArray.mk.injEq]
   exact Array.toList_inj.1 h
 . rintro rfl;rfl
theorem keyEq_false (a b:ByteArray):keyEq a b = false ↔ a ≠ b:=by
 rw [<- Bool.not_eq_true,keyEq_iff]
theorem placeOf1_any (R B:Nat) (k1 k2:ByteArray) (w:World) (h0:w.cell? ⟨R,0,none⟩ = some (.string k1)) (h1:w.cell? ⟨B,0,none⟩ = some (.string k2)) :
 Calls Tryz.prog 162 #[.pointer (some ⟨R,0,none⟩),.pointer (some ⟨B,0,none⟩)] w fun e w'=>e = .returned (.bool (keyEq k1 k2)) /\ ∃ m,w' = w.drewN m:=by
 go_enter Tryz.func162,Tryz.ntmps162
 go_wp2_with fail
 go_quiet (fail)
 go_wp2
 go_ret
 exact ⟨rfl,nq,rfl⟩
structure RunK where
 R:Nat
 key:ByteArray
def RunKs (w:World) (ks:List RunK):Prop:=(ks.map RunK.R).Nodup /\ ∀ x ∈ ks,w.cell? ⟨x.R,0,none⟩ = some (.string x.key)
theorem nodup_inj {α:Type} {f:α -> Nat} {l:List α} (h:(l.map f).Nodup) {x y:α} (hx:x ∈ l) (hy:y ∈ l) (e:f x = f y):x = y:=by
 obtain ⟨i,hi,rfl⟩:=List.mem_iff_getElem.1 hx
 obtain ⟨j,hj,rfl⟩:=List.mem_iff_getElem.1 hy
 have hi2:i < (l.map f).length:=by simpa using hi
 have:=(List.getElem?_inj hi2 h (i:=i) (j:=j)).1 (by rw [List.getElem?_map,List.getElem?_map,List.getElem?_eq_getElem hi,List.getElem?_eq_getElem hj];simp [e])
 subst this;rfl
def PlaceIs (ks:List RunK) (key:ByteArray) (z:Int):Prop:=(∃ i:Nat,z = (i:Int) /\ ∃ x,ks[i]? = some x /\ x.key = key) \/ (z = -1 /\ ∀ x ∈ ks,x.key ≠ key)
theorem placeOf_any (g:Nat) (r:SCells) (ks:List RunK) (key:ByteArray) (w:World) (h:SF w g r) (hrow:Row w 150 1 r.going (runPtrs (ks.map RunK.R))) (hk:RunKs w ks) (hl:ks.length <= 1000000000000) :
 Calls Tryz.prog 145 #[.pointer (some ⟨g,0,none⟩),.string key] w fun e w'=>∃ z,e = .returned (.int .i64 z) /\ PlaceIs ks key z /\ Below w.heap.size w w':=by
 have hb:Below w.heap.size w (w.alloc (.cells #[.string key] 9)):=(Below.refl _ w).alloc (Nat.le_refl _) _
 have hbx:=heap_alloc_new w (.cells #[.string key] 9)
 have h1:=h.below hb h.lt
 have hrow1:=hrow.below hb (fun k hk=>(hrow.blk_lt hk).1)
 have hidx:Hid (Calls Tryz.prog 160 #[r.going,.func (.func 162) #[] #[.pointer (some ⟨w.heap.size,0,none⟩)]] (w.alloc (.cells #[.string key] 9)) fun e w'=>∃ z,e = .returned (.int .i64 z) /\ PlaceIs ks key z /\ Below w.heap.size w w'):=by
  refine (indexFunc_P w.heap.size (ks.map RunK.R) (fun R=>ks.any fun x=>decide (x.R = R) && keyEq x.key key) r.going _ hrow1 (by simp;omega) (fun m R hR=>?_)).mono ?_
  . obtain ⟨x,hx,rfl⟩:=List.mem_map.1 hR
    have hq:(ks.any fun y=>decide (y.R = x.R) && keyEq y.key key) = keyEq x.key key:=by
     rw [Bool.eq_iff_iff,List.any_eq_true]
     constructor
     . rintro ⟨y,hy,e⟩
       simp only [Bool.and_eq_true,decide_eq_true_eq] at e
       have:=nodup_inj hk.1 hy hx e.1
       subst this;exact e.2
     . intro e
       exact ⟨x,hx,by simp [e]⟩
    have c0:=hk.2 x hx
    refine (placeOf1_any x.R w.heap.size x.key key _ (by rw [World.cell?_drewN,hb.cell (p:=⟨x.R,0,none⟩) (World.block_lt_of_cell? w ⟨x.R,0,none⟩ c0)];exact c0) (by rw [World.cell?_drewN];exact blkCell hbx rfl)).mono ?_
    rintro e w' ⟨rfl,m',rfl⟩
    exact ⟨by rw [hq],m + m',by simp⟩
  . rintro e w' ⟨hcase,m,rfl⟩
    have hbb:=below_drewN hb m
    rcases hcase with ⟨i,rfl,⟨R,hR,hq⟩,-⟩ | ⟨rfl,hall⟩
    . refine ⟨_,rfl,.inl ⟨i,rfl,?_⟩,hbb⟩
      rw [List.getElem?_map] at hR
      cases hx:ks[i]? with
      | none=>rw [hx] at hR;simp at hR
      | some x=>
        rw [hx] at hR
        simp only [Option.map_some,Option.some.injEq] at hR
        refine ⟨x,rfl,?_⟩
        rw [List.any_eq_true] at hq
        obtain ⟨y,hy,e⟩:=hq
        simp only [Bool.and_eq_true,decide_eq_true_eq] at e
        have:=nodup_inj hk.1 hy (List.mem_of_getElem? hx) (e.1.trans hR.symm)
        subst this
        exact (keyEq_iff _ _).1 e.2
    . refine ⟨_,rfl,.inr ⟨rfl,fun x hx e=>?_⟩,hbb⟩
      have:=hall x.R (List.mem_map_of_mem hx)
      rw [List.any_eq_false] at this
      exact this x hx (by simp [(keyEq_iff _ _).2 e])
 have c48:=h1.tailAt 2 rfl
 obtain ⟨ga,gc,hgv,-⟩:=hrow.slice
 clear h h1 hrow hrow1 hk hb hbx
 rw [hgv] at c48 hidx
 go_enter Tryz.func145,Tryz.ntmps145
 go_wp2_with fail
 refine hidx.out.mono ?_
 rintro e W ⟨z,rfl,hz,hb⟩
 have HZ:Hid (PlaceIs ks key z /\ Below w.heap.size w W):=⟨hz,hb⟩
 clear hz hb hidx
 go_wp2
 go_ret
 exact ⟨z,rfl,HZ.out.1,HZ.out.2⟩
def fullFor (n:Nat) (keys:Int) (ks:List RunK) (key:ByteArray):Bool:=decide (keys <= (n:Int)) && !(ks.any fun x=>keyEq x.key key)
theorem isFullFor_any (g:Nat) (r:SCells) (ks:List RunK) (key:ByteArray) (w:World) (h:SF w g r) (hrow:Row w 150 1 r.going (runPtrs (ks.map RunK.R))) (hk:RunKs w ks) (hl:ks.length <= 1000000000000) :
 Calls Tryz.prog 126 #[.pointer (some ⟨g,0,none⟩),.string key] w fun e w'=>e = .returned (.bool (fullFor ks.length r.keys ks key)) /\ Below w.heap.size w w':=by
 have hP:=placeOf_any g r ks key w.drew (h.congr rfl) (hrow.congr (fun _ _=>rfl)) hk hl
 have c48:=h.tailAt 2 rfl
 have c5:=h.headAt 5 rfl
 obtain ⟨ga,gc,hgv,-⟩:=hrow.slice
 rw [runPtrs_len,List.length_map] at hgv
 rw [hgv] at c48
 clear h hrow hk hgv
 generalize hks:r.keys = K at *
 clear hks
 obtain ⟨n,hn⟩:∃ n,ks.length = n:=⟨_,rfl⟩
 rw [hn] at c48 hl ⊢
 clear hn
 by_cases hr:K <= (n:Int)
 . have hd:decide (K <= (n:Int)) = true:=decide_eq_true hr
   have HP:=hid hP
   clear hP
   go_enter Tryz.func126,Tryz.ntmps126
   go_wp2_with fail
   refine wp_region_still_tail 14 (by kernel_rfl) (by kernel_rfl) ?_
   simp only [List.take_succ_cons,List.take_zero,List.drop_succ_cons,List.drop_zero]
   change wpStill Tryz.prog _ w.drew (fun a'=>wpList Tryz.prog _ _ _ a' w.drew) _ _
   have c48:w.drew.cell? ⟨g,48,none⟩ = some (.slice ga n gc):=c48
   have c5:w.drew.cell? ⟨g,5,none⟩ = some (.int .i64 K):=c5
   have hB:Hid (Below w.heap.size w w.drew):=(Below.refl _ w).drew
   have hsz:Hid (w.drew.heap.size = w.heap.size):=rfl
   generalize w.drew = W1 at *
   repeat still_step
   refine wpStill_nil ?_
   clear c48 c5
   go_wp2_with fail
   refine HP.out.mono ?_
   rintro e W2 ⟨z,rfl,hz,hb⟩
   have HZ:=hid hz
   have HB:Hid (Below w.heap.size w W2):=hB.out.trans (hb.mono (by rw [hsz.out];exact Nat.le_refl _))
   clear hz hb HP
   go_wp2
   go_ret
   refine ⟨?_,HB.out⟩
   have e:fullFor n K ks key = decide (z < 0):=by
    unfold fullFor
    rw [hd,Bool.true_and]
    rcases HZ.out with ⟨i,rfl,x,hx,hxk⟩ | ⟨rfl,hall⟩
    . have:(ks.any fun x=>keyEq x.key key) = true:=List.any_eq_true.2 ⟨x,List.mem_of_getElem? hx,(keyEq_iff _ _).2 hxk⟩
      rw [this];simp
    . have:(ks.any fun x=>keyEq x.key key) = false:=List.any_eq_false.2 (fun x hx=>by rw [(keyEq_false _ _).2 (hall x hx)];simp)
      rw [this];rfl
   rw [e];rfl
 . have hd:decide (K <= (n:Int)) = false:=decide_eq_false hr
   clear hP
   have e:fullFor n K ks key = false:=by unfold fullFor;rw [hd];rfl
   rw [e]
   clear e
   go_enter Tryz.func126,Tryz.ntmps126
   go_wp2_with fail
   go_quiet (fail)
   go_wp2
   go_ret
   exact ⟨rfl,below_drewN (Below.refl _ w) nq⟩
end Go.Proofs.YtcfngdnmpogaoaaGreat
namespace Go.Proofs.YtcfngdnmpogaoaaGreat
open Go.RowKit Go.MuLone
set_option maxHeartbeats 3200000
set_option maxRecDepth 20000
structure DInv (w wr:World) (g o n c:Nat) (Rs:List Nat) (q:Nat -> Bool) (i j:Nat):Prop where
 kept:Kept (fun k=>k = g) w wr
 row:∃ cur,wr.heap[g]? = some (.cells cur 150 (0,0)) /\ o + c <= cur.size /\ (∀ (t R:Nat),((Rs.take j).filter fun R=>!q R)[t]? = some R -> cur[o + t]? = some (.pointer (some ⟨R,0,none⟩))) /\ (∀ (t R:Nat),j <= t -> Rs[t]? = some R -> cur[o + t]? = some (.pointer (some ⟨R,0,none⟩)))
 len:((Rs.take j).filter fun R=>!q R).length = i
 lt:i < j
 le:j <= n
theorem filter_take_succ (Rs:List Nat) (p:Nat -> Bool) (j R:Nat) (h:Rs[j]? = some R):(Rs.take (j + 1)).filter p = (Rs.take j).filter p ++ (if p R then [R] else []):=by
 have hj:j < Rs.length:=(List.getElem?_eq_some_iff.1 h).1
 have e:Rs[j] = R:=(List.getElem?_eq_some_iff.1 h).2
 rw [List.take_succ_eq_append_getElem hj,e,List.filter_append]
 congr 1
 cases hp:p R <;> simp [hp]
theorem deleteFunc_any (B:Nat) (Rs:List Nat) (q:Nat -> Bool) (sv:Value) (w:World) (hrow:Row w 150 1 sv (runPtrs Rs)) (hlen:Rs.length <= 4611686018427387904)
 (hf:∀ (W:World) (R:Nat),R ∈ Rs -> Kept (fun k=>sv.ownBlock = some k) w W -> Calls Tryz.prog 142 #[.pointer (some ⟨R,0,none⟩),.pointer (some ⟨B,0,none⟩)] W fun e w'=>e = .returned (.bool (q R)) /\ ∃ m,w' = W.drewN m) :
 Calls Tryz.prog 143 #[sv,.func (.func 142) #[] #[.pointer (some ⟨B,0,none⟩)]] w fun e w'=>∃ v,e = .returned v /\ Row w' 150 1 v (runPtrs (Rs.filter fun R=>!q R)) /\ (∀ k,v.ownBlock = some k -> sv.ownBlock = some k) /\ Kept (fun k=>sv.ownBlock = some k) w w':=by
 have hI:=indexFunc_E B Rs q sv w hrow hlen (fun m R hR=>(hf (w.drewN m) R hR ((Kept.refl _ w).drewN m)).mono (by
  rintro e w' ⟨rfl,m',rfl⟩
  exact ⟨rfl,m + m',by simp⟩))
 have HF:=hid hf
 have HROW:=hid hrow
 clear hf
 obtain ⟨sa,sc,hsv,hsc⟩:=hrow.slice
 rw [runPtrs_len] at hsv hsc
 clear hrow
 subst hsv
 go_enter Tryz.func143,Tryz.ntmps143
 go_wp2_with fail
 refine hI.mono ?_
 rintro e W ⟨hcase,m,hW⟩
 have HW:=hid hW
 clear hW hI
 rcases hcase with ⟨i,rfl,⟨R0,hR0,hq0⟩,hbefore⟩ | ⟨rfl,hall⟩
 . have hin:i < Rs.length:=(List.getElem?_eq_some_iff.1 hR0).1
   obtain ⟨g,o,n,c,hv,-,-⟩:=HROW.out.shape (by intro e;have:=runPtrs_len Rs;rw [e] at this;simp at this;omega)
   simp only [Value.slice.injEq] at hv
   obtain ⟨rfl,rfl,rfl⟩:=hv
   obtain ⟨cur,hg,hcm,hcs,hcell⟩:∃ cur,w.heap[g]? = some (.cells cur 150 (0,0)) /\ sc <= maxLen /\ o + sc <= cur.size /\ ∀ (t R:Nat),Rs[t]? = some R -> cur[o + t]? = some (.pointer (some ⟨R,0,none⟩)):=by
    rcases HROW.out with ⟨h,_⟩ | ⟨g',off',n',cap',cur,hv,hg,h0,h2,h3,h4,h5⟩
    . simp at h
    . simp only [Value.slice.injEq,Option.some.injEq,Addr.mk.injEq] at hv
      obtain ⟨⟨rfl,rfl,_⟩,rfl,rfl⟩:=hv
      refine ⟨cur,hg,h2,by omega,fun t R ht=>?_⟩
      rw [h5 t (by have:=(List.getElem?_eq_some_iff.1 ht).1;omega),runPtrs,List.getElem?_map,ht];rfl
   unfold maxLen at hcm
   have hpre:(Rs.take i).filter (fun R=>!q R) = Rs.take i:=by
    rw [List.filter_eq_self]
    intro R hR
    obtain ⟨t,ht,e⟩:=List.mem_iff_getElem.1 hR
    have ht':t < i:=by rw [List.length_take] at ht;omega
    rw [List.getElem_take] at e
    have:=hbefore t R ht' (by rw [<- e];exact List.getElem?_eq_getElem (by omega))
    rw [this];rfl
   have hstart:Hid (DInv w W g o Rs.length sc Rs q i (i + 1)):=by
    refine ⟨by rw [HW.out];exact (Kept.refl _ w).drewN m,⟨cur,by rw [HW.out];simpa using hg,hcs,fun t R ht=>?_,fun t R _ ht=>hcell t R ht⟩,?_,by omega,by omega⟩
    . rw [filter_take_succ Rs _ i R0 hR0,hpre,hq0] at ht
      simp only [Bool.not_true,Bool.false_eq_true,if_false,List.append_nil] at ht
      rw [List.getElem?_take] at ht
      split at ht
      . exact hcell t R ht
      . cases ht
    . rw [filter_take_succ Rs _ i R0 hR0,hpre,hq0]
      simp
      omega
   have hwi:IntKind.i64.wrap ((i:Int) + 1) = (i:Int) + 1:=by rw [IntKind.wrap_i64];omega
   have hne1:((i:Int) == -1) = false:=by rw [beq_eq_false_iff_ne];omega
   clear hcell hg hcs hpre hbefore hR0 hq0 HW
   go_wp2
   go_loopw [5,6] (fun si sj wr=>∃ i j:Nat,si = .int .i64 (i:Int) /\ sj = .int .i64 (j:Int) /\ DInv w wr g o Rs.length sc Rs q i j) (fun _ sj _=>Rs.length - (intOf sj).toNat)
   case atStart=>exact ⟨i,i + 1,rfl,by go_num,hstart.out⟩
   case round=>
    clear hstart hin hwi hne1
    obtain ⟨i,j,rfl,rfl,hD⟩:=hrel
    have hij:=hD.lt
    have hjn:=hD.le
    have HD:=hid hD
    clear hD
    by_cases hlt:j < Rs.length
    . have ht:Rs[j]? = some Rs[j]:=List.getElem?_eq_getElem hlt
      obtain ⟨cur,hg,hcs,hfr,hbk⟩:=HD.out.row
      have c0:wr.cell? ⟨g,o + j,none⟩ = some (.pointer (some ⟨Rs[j],0,none⟩)):=by rw [cell_of_row wr _ _ cur _ (0,0) hg];exact hbk j _ (Nat.le_refl _) ht
      have hq:=HF.out wr Rs[j] (by simp) (HD.out.kept.mono (fun k _ h=>by rw [h];rfl))
      generalize hRj:Rs[j] = R at *
      have HT:=hid ht
      have hci:wr.cell? ⟨g,o + i,none⟩ = some (cur[o + i]'(by omega)):=by rw [cell_of_row wr _ _ cur _ (0,0) hg,Array.getElem?_eq_getElem (by omega)]
      have hfz:wr.frozen? ⟨g,o + i,none⟩ = false:=frozen_of_row wr _ _ cur _ hg
      clear ht hRj hfr hbk
      have hjn':(j:Int) < (Rs.length:Int):=by omega
      have hin':(i:Int) < (Rs.length:Int):=by omega
      have hwj:IntKind.i64.wrap ((j:Int) + 1) = (j:Int) + 1:=by rw [IntKind.wrap_i64];omega
      have hwi:IntKind.i64.wrap ((i:Int) + 1) = (i:Int) + 1:=by rw [IntKind.wrap_i64];omega
      cases hqR:q R with
      | true=>
        rw [hqR] at hq
        have HQ:=hid hqR
        clear hqR
        go_wp2_with fail
        refine hq.mono ?_
        rintro e W2 ⟨rfl,m2,hW2⟩
        have HW2:=hid hW2
        clear hW2 hq c0 hci hfz
        go_wp2
        go_roundw
        case rel=>
         obtain ⟨cur,hg,hcs,hfr,hbk⟩:=HD.out.row
         refine ⟨i,j + 1,rfl,by go_num,⟨by rw [HW2.out];exact HD.out.kept.drewN m2,⟨cur,by rw [HW2.out];simpa using hg,hcs,fun t R' h'=>?_,fun t R' h1 h2=>hbk t R' (by omega) h2⟩,?_,by omega,by omega⟩⟩
         . rw [filter_take_succ Rs _ j R HT.out,HQ.out] at h'
           simp only [Bool.not_true,Bool.false_eq_true,if_false,List.append_nil] at h'
           exact hfr t R' h'
         . rw [filter_take_succ Rs _ j R HT.out,HQ.out]
           simp only [Bool.not_true,Bool.false_eq_true,if_false,List.append_nil]
           exact HD.out.len
        case measure=>simp [intOf];omega
      | false=>
        rw [hqR] at hq
        have HQ:=hid hqR
        clear hqR
        go_wp2_with fail
        refine hq.mono ?_
        rintro e W2 ⟨rfl,m2,hW2⟩
        have hci2:W2.cell? ⟨g,o + i,none⟩ = some (cur[o + i]'(by omega)):=by rw [hW2,World.cell?_drewN];exact hci
        have hfz2:W2.frozen? ⟨g,o + i,none⟩ = false:=by rw [hW2,World.frozen?_drewN];exact hfz
        have HW2:=hid hW2
        clear hW2 hq c0 hci hfz
        go_wp2
        go_roundw
        case rel=>
         obtain ⟨cur,hg,hcs,hfr,hbk⟩:=HD.out.row
         have hg2:W2.heap[g]? = some (.cells cur 150 (0,0)):=by rw [HW2.out];simpa using hg
         have hl:=HD.out.len
         refine ⟨i + 1,j + 1,by go_num,by go_num,⟨?_,⟨_,heap_setCell_same W2 g (o + i) cur _ _ hg2,by simpa using hcs,fun t R' h'=>?_,fun t R' h1 h2=>?_⟩,?_,by omega,by omega⟩⟩
         . exact Kept.setCell (by rw [HW2.out];exact HD.out.kept.drewN m2) ⟨g,o + i,none⟩ _ (fun _=>rfl)
         . rw [filter_take_succ Rs _ j R HT.out,HQ.out] at h'
           simp only [Bool.not_false,if_true] at h'
           rw [Array.getElem?_setIfInBounds]
           by_cases hti:t = i
           . subst hti
             rw [List.getElem?_append_right (by omega),hl] at h'
             simp at h'
             subst h'
             rw [if_pos rfl];simp;omega
           . have htl:t < i:=by
              have:=(List.getElem?_eq_some_iff.1 h').1
              simp only [List.length_append,hl,List.length_cons,List.length_nil] at this
              omega
             rw [List.getElem?_append_left (by omega)] at h'
             rw [if_neg (by omega)]
             exact hfr t R' h'
         . rw [Array.getElem?_setIfInBounds,if_neg (by omega)]
           exact hbk t R' (by omega) h2
         . rw [filter_take_succ Rs _ j R HT.out,HQ.out]
           simp only [Bool.not_false,if_true,List.length_append,hl,List.length_cons,List.length_nil]
        case measure=>simp [intOf];omega
    . have hje:j = Rs.length:=by omega
      subst hje
      obtain ⟨cur,hg,hcs,hfr,hbk⟩:=HD.out.row
      have hl:=HD.out.len
      rw [List.take_length] at hfr hl
      have hcl:∀ ty,(Builtin.clear_ #[108] ty #[.slice (some ⟨g,o + i,none⟩) (Rs.length - i) (sc - i)]).run Tryz.prog wr = .ok (.tuple #[]) (wr.setCells g (o + i) (List.replicate (Rs.length - i) (.pointer none))):=fun ty=>
       Lib.run_clear_slice (P:=Tryz.prog) wr 108 150 ty (.pointer none) Tryz.underlying108 Tryz.zeroValue150 rfl rfl g (o + i) (Rs.length - i) (sc - i) (by omega) (fun t ht=>by rw [cell_of_row wr _ _ cur _ (0,0) hg];simp;omega) (fun t ht=>frozen_of_row wr _ _ cur _ hg)
      obtain ⟨cur2,a1,a2,a3,-⟩:=setCells_same g 150 (List.replicate (Rs.length - i) (.pointer none)) (o + i) wr cur hg
      have K2:Hid (Kept (fun k=>k = g) w (wr.setCells g (o + i) (List.replicate (Rs.length - i) (.pointer none)))):=by
       obtain ⟨s1,s2,s3,s4⟩:=setCells_streams g (List.replicate (Rs.length - i) (.pointer none)) (o + i) wr
       exact HD.out.kept.trans ⟨s1,s2,s3,Nat.le_of_eq s4.symm,fun k _ hk=>setCells_other g _ _ wr k hk⟩
      have R2:Hid (Row (wr.setCells g (o + i) (List.replicate (Rs.length - i) (.pointer none))) 150 1 (.slice (some ⟨g,o,none⟩) i sc) (runPtrs (Rs.filter fun R=>!q R))):=by
       refine .inr ⟨g,o,i,sc,cur2,rfl,a1,by omega,by unfold maxLen;omega,by omega,by rw [runPtrs_len,hl];omega,fun t ht=>?_⟩
       rw [a3 _ (.inl (by omega)),runPtrs,List.getElem?_map]
       have htl:t < (Rs.filter fun R=>!q R).length:=by rw [hl];omega
       rw [List.getElem?_eq_getElem htl]
       exact hfr t _ (List.getElem?_eq_getElem htl)
      obtain ⟨W3,HW3⟩:∃ W3,Hid (wr.setCells g (o + i) (List.replicate (Rs.length - i) (.pointer none)) = W3):=⟨_,rfl⟩
      rw [HW3.out] at hcl K2 R2
      clear hfr hbk hg a1 a2 a3 hcs HD
      have hjn':¬ ((Rs.length:Int) < (Rs.length:Int)):=by omega
      have hi1:(i:Int) <= (Rs.length:Int):=by omega
      have hi2:i <= Rs.length:=by omega
      have hic:¬ (sc = i):=by omega
      have hic2:(i:Int) <= (sc:Int):=by omega
      go_wp2_with (simp only [hcl])
      go_ret
      exact ⟨_,rfl,R2.out,fun k hk=>hk,K2.out.mono (fun k _ h=>by rw [h];rfl)⟩
 . have hfil:(Rs.filter fun R=>!q R) = Rs:=by
    rw [List.filter_eq_self]
    intro R hR
    rw [hall R hR];rfl
   have HFil:=hid hfil
   clear hall hfil
   go_wp2
   go_ret
   exact ⟨_,rfl,by rw [HFil.out];exact HROW.out.congr (fun k _=>by rw [HW.out];simp),fun k hk=>hk,by rw [HW.out];exact (Kept.refl _ w).drewN m⟩
end Go.Proofs.YtcfngdnmpogaoaaGreat
namespace Go.Proofs.YtcfngdnmpogaoaaGreat
open Go.RowKit Go.MuLone
set_option maxHeartbeats 1600000
set_option maxRecDepth 20000
def cmpI (x y:Int):Int:=if x < y then -1 else if y < x then 1 else 0
theorem cmpI_cases (x y:Int):(x < y /\ cmpI x y = -1) \/ (x = y /\ cmpI x y = 0) \/ (y < x /\ cmpI x y = 1):=by
 unfold cmpI;split
 . exact .inl ⟨by assumption,rfl⟩
 . split
   . exact .inr (.inr ⟨by assumption,rfl⟩)
   . exact .inr (.inl ⟨by omega,rfl⟩)
theorem isNaN64 (x:Int) (w:World):Calls Tryz.prog 140 #[.int .i64 x] w fun e w'=>e = .returned (.bool false) /\ w' = w:=by
 go_enter Tryz.func140,Tryz.ntmps140
 go_wp2
 go_ret
 exact ⟨rfl,rfl⟩
theorem cmp64_any (x y:Int) (w:World):Calls Tryz.prog 108 #[.int .i64 x,.int .i64 y] w fun e w'=>e = .returned (.int .i64 (cmpI x y)) /\ w' = w:=by
 have n0:=fun x=>isNaN64 x
 rcases cmpI_cases x y with ⟨h,e⟩ | ⟨h,e⟩ | ⟨h,e⟩
 . rw [e]
   clear e
   go_enter Tryz.func108,Tryz.ntmps108
   go_wp2_with (go_at_call 140;refine (n0 _ _).mono ?_;rintro e w' ⟨rfl,rfl⟩)
   go_ret
   exact ⟨rfl,rfl⟩
 . rw [e]
   subst h
   clear e
   go_enter Tryz.func108,Tryz.ntmps108
   go_wp2_with (go_at_call 140;refine (n0 _ _).mono ?_;rintro e w' ⟨rfl,rfl⟩)
   go_ret
   exact ⟨rfl,rfl⟩
 . rw [e]
   clear e
   have h2:¬ x < y:=by omega
   go_enter Tryz.func108,Tryz.ntmps108
   go_wp2_with (go_at_call 140;refine (n0 _ _).mono ?_;rintro e w' ⟨rfl,rfl⟩)
   go_ret
   exact ⟨rfl,rfl⟩
def orI (a b:Int):Int:=if a = 0 then b else a
theorem or2_any (g:Nat) (a b:Int) (c:Nat) (w:World) (h0:w.cell? ⟨g,0,none⟩ = some (.int .i64 a)) (h1:w.cell? ⟨g,1,none⟩ = some (.int .i64 b)) :
 Calls Tryz.prog 107 #[.slice (some ⟨g,0,none⟩) 2 c] w fun e w'=>e = .returned (.int .i64 (orI a b)) /\ w' = w:=by
 unfold orI
 by_cases ha:a = 0
 . subst ha
   by_cases hb:b = 0
   . subst hb
     go_enter Tryz.func107,Tryz.ntmps107
     go_wp2
     refine wp_loop_rounds 3 ?_
     rw [rounds_succ]
     go_wp2
     rw [rounds_succ]
     go_wp2
     rw [rounds_succ]
     go_wp2
     go_ret
     exact ⟨rfl,rfl⟩
   . have hb':(b != 0) = true:=by simpa using hb
     go_enter Tryz.func107,Tryz.ntmps107
     go_wp2
     refine wp_loop_rounds 3 ?_
     rw [rounds_succ]
     go_wp2
     rw [rounds_succ]
     go_wp2
     go_ret
     exact ⟨rfl,rfl⟩
 . have ha':(a != 0) = true:=by simpa using ha
   rw [if_neg ha]
   go_enter Tryz.func107,Tryz.ntmps107
   go_wp2
   refine wp_loop_rounds 3 ?_
   rw [rounds_succ]
   go_wp2
   go_ret
   exact ⟨rfl,rfl⟩
def cmpW (f l f' l':Int):Int:=orI (cmpI f f') (cmpI l l')
theorem compare_any (f l f' l':Int) (w:World) :
 Calls Tryz.prog 166 #[.agg #[.int .i64 f,.int .i64 l],.agg #[.int .i64 f',.int .i64 l']] w fun e w'=>e = .returned (.int .i64 (cmpW f l f' l')) /\ Below w.heap.size w w':=by
 obtain ⟨A,HA⟩:∃ A,Hid (cmpI f f' = A):=⟨_,rfl⟩
 obtain ⟨B,HB⟩:∃ B,Hid (cmpI l l' = B):=⟨_,rfl⟩
 obtain ⟨Z,HZ⟩:∃ Z,Hid (cmpW f l f' l' = Z):=⟨_,rfl⟩
 rw [HZ.out]
 have q1:∀ W,Calls Tryz.prog 108 #[.int .i64 f,.int .i64 f'] W fun e w'=>e = .returned (.int .i64 A) /\ w' = W:=fun W=>by have:=cmp64_any f f' W;rw [HA.out] at this;exact this
 have q2:∀ W,Calls Tryz.prog 108 #[.int .i64 l,.int .i64 l'] W fun e w'=>e = .returned (.int .i64 B) /\ w' = W:=fun W=>by have:=cmp64_any l l' W;rw [HB.out] at this;exact this
 go_enter Tryz.func166,Tryz.ntmps166
 go_upto_region 1 with fail
 refine wp_region_still_tail 10 (by kernel_rfl) (by kernel_rfl) ?_
 simp only [List.take_succ_cons,List.take_zero,List.drop_succ_cons,List.drop_zero]
 obtain ⟨hx,hy⟩:=two_new w (.cells #[.int .i64 f,.int .i64 l] 202) (.cells #[.int .i64 f',.int .i64 l'] 202)
 have hB1:Hid (Below w.heap.size w ((w.alloc (.cells #[.int .i64 f,.int .i64 l] 202)).alloc (.cells #[.int .i64 f',.int .i64 l'] 202)).drew):=(((Below.refl _ w).alloc (Nat.le_refl _) _).alloc (by simp) _).drew
 generalize (w.alloc (.cells #[.int .i64 f,.int .i64 l] 202)).alloc (.cells #[.int .i64 f',.int .i64 l'] 202) = W1 at *
 change wpStill Tryz.prog _ W1.drew (fun a'=>wpList Tryz.prog _ _ _ a' W1.drew) _ _
 have hx:W1.drew.heap[w.heap.size]? = some (.cells #[.int .i64 f,.int .i64 l] 202 (0,0)):=hx
 have hy:W1.drew.heap[w.heap.size + 1]? = some (.cells #[.int .i64 f',.int .i64 l'] 202 (0,0)):=hy
 generalize W1.drew = W2 at *
 obtain ⟨x0,x1,-,-⟩:=cells2At hx
 obtain ⟨y0,y1,-,-⟩:=cells2At hy
 repeat still_step
 still_call (q1 _)
 repeat still_step
 still_call (q2 _)
 repeat still_step
 refine wpStill_nil ?_
 clear q1 q2 x0 x1 y0 y1 hx hy
 go_wp2_with fail
 have z:=heap_alloc_new W2 (.cells #[.int .i64 A,.int .i64 B] 3)
 have hB2:Hid (Below w.heap.size w (W2.alloc (.cells #[.int .i64 A,.int .i64 B] 3))):=hB1.out.alloc hB1.out.size _
 refine (or2_any _ A B 2 _ (blkCell z rfl) (blkCell z rfl)).mono ?_
 rintro e W3 ⟨rfl,rfl⟩
 have hZ:orI A B = Z:=by rw [<- HZ.out,<- HA.out,<- HB.out];rfl
 rw [hZ]
 clear z hZ
 go_wp2
 go_ret
 exact ⟨rfl,hB2.out⟩
theorem paneCmp_any (P:Nat) (f l f' l':Int) (w:World) (h0:w.cell? ⟨P,0,none⟩ = some (.int .i64 f)) (h1:w.cell? ⟨P,1,none⟩ = some (.int .i64 l)) :
 Calls Tryz.prog 165 #[.pointer (some ⟨P,0,none⟩),.agg #[.int .i64 f',.int .i64 l']] w fun e w'=>e = .returned (.int .i64 (cmpW f l f' l')) /\ Below w.heap.size w w':=by
 have hP:=World.block_lt_of_cell? w ⟨P,0,none⟩ h0
 obtain ⟨Z,HZ⟩:∃ Z,Hid (cmpW f l f' l' = Z):=⟨_,rfl⟩
 rw [HZ.out]
 have q1:∀ W,Calls Tryz.prog 166 #[.agg #[.int .i64 f,.int .i64 l],.agg #[.int .i64 f',.int .i64 l']] W fun e w'=>e = .returned (.int .i64 Z) /\ Below W.heap.size W w':=fun W=>by have:=compare_any f l f' l' W;rw [HZ.out] at this;exact this
 go_enter Tryz.func165,Tryz.ntmps165
 go_upto_region 1 with fail
 refine wp_region_still_tail 5 (by kernel_rfl) (by kernel_rfl) ?_
 simp only [List.take_succ_cons,List.take_zero,List.drop_succ_cons,List.drop_zero]
 have hB1:Hid (Below w.heap.size w (w.alloc (.cells #[.int .i64 f',.int .i64 l'] 202)).drew):=((Below.refl _ w).alloc (Nat.le_refl _) _).drew
 have hy:=heap_alloc_new w (.cells #[.int .i64 f',.int .i64 l'] 202)
 have p0:=(hB1.out.cell (p:=⟨P,0,none⟩) hP).trans h0
 have p1:=(hB1.out.cell (p:=⟨P,1,none⟩) hP).trans h1
 generalize w.alloc (.cells #[.int .i64 f',.int .i64 l'] 202) = W1 at *
 change wpStill Tryz.prog _ W1.drew (fun a'=>wpList Tryz.prog _ _ _ a' W1.drew) _ _
 have hy:W1.drew.heap[w.heap.size]? = some (.cells #[.int .i64 f',.int .i64 l'] 202 (0,0)):=hy
 generalize W1.drew = W2 at *
 obtain ⟨y0,y1,-,-⟩:=cells2At hy
 repeat still_step
 refine wpStill_nil ?_
 clear p0 p1 y0 y1 h0 h1 hy
 go_wp2_with fail
 refine (q1 _).mono ?_
 rintro e W3 ⟨rfl,hb3⟩
 have hB2:=hid (hB1.out.trans (hb3.mono hB1.out.size))
 clear hb3 q1
 go_wp2
 go_ret
 exact ⟨rfl,hB2.out⟩
end Go.Proofs.YtcfngdnmpogaoaaGreat
