import Derived.Test.YtcfngdnmpogaoaaGreatTkT17
import Derived.Laws.IdiomCopy
import Derived.Laws.Externs
import Derived.Lib.AppendZerosOnto
import Derived.Lib.Overlaps
import Derived.Lib.SliceRun
namespace Go.Proofs.YtcfngdnmpogaoaaGreat
open Go.RowKit Go.MuLone
set_option maxHeartbeats 3200000
set_option maxRecDepth 20000
theorem kept_setCells (g o:Nat) (vs:List Value) (w:World):Kept (fun k=>k=g) w (w.setCells g o vs):=by
 obtain ⟨s1,s2,s3,s4⟩:=setCells_streams g vs o w
 exact ⟨s1,s2,s3,Nat.le_of_eq s4.symm,fun k _ hk=>setCells_other g vs o w k hk⟩
theorem insAt (xs:List Value) (k j:Nat) (x:Value) (hk:k<=xs.length):(xs.take k++x :: xs.drop k)[j]?=if j < k then xs[j]? else if j=k then some x else xs[j - 1]?:=by
 split
 . rename_i h;rw [List.getElem?_append_left (by simp;omega),List.getElem?_take,if_pos h]
 . rename_i h
   rw [List.getElem?_append_right (by simp;omega),List.length_take,Nat.min_eq_left hk]
   split
   . rename_i h2;subst h2;simp
   . rename_i h2
     rw [show j - k=(j - k - 1)+1 from by omega,List.getElem?_cons_succ,List.getElem?_drop]
     congr 1;omega
theorem Row.shifted {w:World} {e:TypeId} {g off n cap:Nat} {xs:List Value} (h:Row w e 1 (.slice (some ⟨g,off,none⟩) n cap) xs) (k:Nat) (x:Value) (hk:k < n) (hc:n+1<=cap) :
 Row ((w.setCells g (off+(k+1)) (xs.drop k)).setCells g (off+k) [x]) e 1 (.slice (some ⟨g,off,none⟩) (n+1) cap) (xs.take k++x :: xs.drop k):=by
 rcases h with ⟨h,_⟩ | ⟨g',off',n',cap',cur,hv,hg,h1,h2,h3,h4,h5⟩
 . simp at h
 . simp only [Value.slice.injEq,Option.some.injEq,Addr.mk.injEq] at hv
   obtain ⟨⟨rfl,rfl,_⟩,rfl,rfl⟩:=hv
   have hl:xs.length=n:=by omega
   have hd:(xs.drop k).length=n - k:=by simp [hl]
   obtain ⟨c1,a1,a2,a3,a4⟩:=setCells_same g e (xs.drop k) (off+(k+1)) w cur hg
   obtain ⟨c2,b1,b2,b3,b4⟩:=setCells_same g e [x] (off+k) _ c1 a1
   refine .inr ⟨g,off,n+1,cap,c2,rfl,b1,hc,h2,by omega,by simp [hl];omega,fun j hj=>?_⟩
   rw [insAt xs k j x (by omega)]
   split
   . rename_i hjk
     rw [b3 _ (.inl (by omega)),a3 _ (.inl (by omega)),h5 j (by omega)]
   . rename_i hjk
     split
     . rename_i hj2
       subst hj2
       have:=b4 (by simp;omega) 0 (by simp)
       simpa using this
     . rename_i hj2
       rw [b3 _ (.inr (by simp;omega))]
       have:=a4 (by omega) (j - k - 1) (by omega)
       rw [show off+(k+1)+(j - k - 1)=off+j from by omega] at this
       rw [this,List.getElem?_drop]
       congr 1;omega
theorem insert_shift (g off n cap k vb:Nat) (xs:List Value) (x:Addr) (w:World) (hrow:Row w 208 1 (.slice (some ⟨g,off,none⟩) n cap) xs) (h1:∀ u ∈ xs,u.oneCell'=true) (hk:k < n) (hc:n+1<=cap)
 (hb:w.heap[vb]?=some (.cells #[.pointer (some x)] 208 (0,0))) (hne:vb ≠ g) :
 Calls Tryz.prog 167 #[.slice (some ⟨g,off,none⟩) n cap,.int .i64 k,.slice (some ⟨vb,0,none⟩) 1 1] w fun e w'=>e=.returned (.slice (some ⟨g,off,none⟩) (n+1) cap)/\Row w' 208 1 (.slice (some ⟨g,off,none⟩) (n+1) cap) (xs.take k++.pointer (some x) :: xs.drop k)/\Kept (fun k=>k=g) w w':=by
 obtain ⟨i,hi,hz0,hz1,hz2⟩:=info_parts infoPP
 have hsz:(Tryz.prog.info? 208).map (·.size)=some 1:=by rw [hi];simp [hz1]
 have hR:=hrow
 obtain ⟨cur,hg,hcm,hcs,hl,hcell⟩:∃ cur,w.heap[g]?=some (.cells cur 208 (0,0))/\cap<=maxLen/\off+cap*1<=cur.size/\xs.length=n*1/\∀ j,j < n*1->cur[off+j]?=xs[j]?:=by
  rcases hrow with ⟨h,_⟩ | ⟨g',off',n',cap',cur,hv,hg,_,h2,h3,h4,h5⟩
  . simp at h
  . simp only [Value.slice.injEq,Option.some.injEq,Addr.mk.injEq] at hv
    obtain ⟨⟨rfl,rfl,_⟩,rfl,rfl⟩:=hv
    exact ⟨cur,hg,h2,h3,h4,h5⟩
 simp only [Nat.mul_one] at hcs hl hcell
 unfold maxLen at hcm
 have hdl:(xs.drop k).length=n - k:=by simp [hl]
 have hov:∀ lb cb,(callFunc 174 #[.slice (some ⟨vb,0,none⟩) 1 1,.slice (some ⟨g,off+(k+1),none⟩) lb cb]).run Tryz.prog w=.ok (.value (.bool false)) w:=fun lb cb=>by
  rw [run_callFunc_extern Tryz.func174 (by kernel_rfl) (by kernel_rfl) (by kernel_rfl) (e:=Extern.SlicesOverlaps.overlaps #[175,175] #[4]) (by kernel_rfl),
   Lib.run_overlaps_apart w 175 4 208 Tryz.underlying175 1 Tryz.sizeOf208 ⟨vb,0,none⟩ ⟨g,off+(k+1),none⟩ 1 1 lb cb hne 208 208 1 cur.size (by simp [World.shape?,hb]) (by simp [World.shape?,hg]) (by omega) (blkFrozen hb 0) (blkFrozen hb 1)]
  rfl
 have hcp1:∀ ty dc sc,(Builtin.copy_ #[175,175] ty #[.slice (some ⟨g,off+(k+1),none⟩) (n+1 - (k+1)) dc,.slice (some ⟨g,off+k,none⟩) (n+1 - k) sc]).run Tryz.prog w.drew=.ok (goInt (xs.drop k).length) (w.drew.setCells g (off+(k+1)) (xs.drop k)):=fun ty dc sc=>
  run_copy_cells w.drew _ _ ty 208 g (off+(k+1)) (n+1 - (k+1)) dc ⟨g,off+k,none⟩ (n+1 - k) sc (xs.drop k) Tryz.underlying175 hsz (by rw [hdl];simp only [Nat.min_def];split <;> omega)
   (fun j v hj=>by
    rw [List.getElem?_drop] at hj
    have hjn:k+j < n:=by have:=(List.getElem?_eq_some_iff.1 hj).1;omega
    rw [Addr.add_lit,World.cell?_drew,cell_of_row w _ _ cur _ (0,0) hg,Nat.add_assoc,hcell (k+j) hjn];exact hj)
   (fun j hj=>by rw [World.cell?_drew,cell_of_row w _ _ cur _ (0,0) hg];simp;omega) (fun j hj=>frozen_of_row w _ _ cur _ hg) (fun v hv=>h1 v (List.mem_of_mem_drop hv))
 have hrs:=Row.shifted (w:=w.drew) (hR.congr (fun _ _=>rfl)) k (.pointer (some x)) hk hc
 have hks:Kept (fun k=>k=g) w ((w.drew.setCells g (off+(k+1)) (xs.drop k)).setCells g (off+k) [.pointer (some x)]):=(((Kept.refl _ w).drew).trans (kept_setCells g _ _ _)).trans (kept_setCells g _ _ _)
 obtain ⟨c1,a1,a2,-,-⟩:=setCells_same g 208 (xs.drop k) (off+(k+1)) w.drew cur hg
 have hb1:(w.drew.setCells g (off+(k+1)) (xs.drop k)).heap[vb]?=some (.cells #[.pointer (some x)] 208 (0,0)):=(setCells_other g _ _ _ vb hne).trans hb
 obtain ⟨W1,HW1⟩:∃ W1,Hid (w.drew.setCells g (off+(k+1)) (xs.drop k)=W1):=⟨_,rfl⟩
 rw [HW1.out] at hcp1 hrs hks a1 hb1
 have hcp2:∀ ty dc,(Builtin.copy_ #[175,175] ty #[.slice (some ⟨g,off+k,none⟩) (n+1 - k) dc,.slice (some ⟨vb,0,none⟩) 1 1]).run Tryz.prog W1=.ok (goInt 1) (W1.setCells g (off+k) [.pointer (some x)]):=fun ty dc=>
  run_copy_cells W1 _ _ ty 208 g (off+k) (n+1 - k) dc ⟨vb,0,none⟩ 1 1 [.pointer (some x)] Tryz.underlying175 hsz (by simp only [Nat.min_def,List.length_cons,List.length_nil];split <;> omega)
   (fun j v hj=>by
    cases j with
    | zero=>simp at hj;subst hj;exact blkCell hb1 rfl
    | succ j=>simp at hj)
   (fun j hj=>by rw [cell_of_row W1 _ _ c1 _ (0,0) a1];simp at hj ⊢;omega) (fun j hj=>frozen_of_row W1 _ _ c1 _ a1) (by simp [Value.oneCell'])
 have HR2:=hid hrs
 have HK2:=hid hks
 obtain ⟨W2,HW2⟩:∃ W2,Hid (W1.setCells g (off+k) [.pointer (some x)]=W2):=⟨_,rfl⟩
 rw [HW2.out] at hcp2 HR2 HK2
 have hz2':¬ ((k:Int)=(n:Int)):=by omega
 have hw1:IntKind.i64.wrap ((k:Int)+1)=(k:Int)+1:=by rw [IntKind.wrap_i64];omega
 have hb1':(0:Int)<=(k:Int)+1:=by omega
 have htn:((k:Int)+1).toNat=k+1:=by omega
 have hb2':¬ (cap=k+1):=by omega
 have hb4':¬ (cap=k):=by omega
 have hin:k<=n:=by omega
 have hb3':(k:Int)<=(n:Int)+1:=by omega
 have hb5':k<=n+1:=by omega
 clear hrow hR hcell hg a1 a2 hb hb1 h1 hrs hks
 go_enter Tryz.func167,Tryz.ntmps167
 go_wp2_with (simp only [hov])
 refine wp_region_still_tail 8 (by kernel_rfl) (by kernel_rfl) ?_
 simp only [List.take_succ_cons,List.take_zero,List.drop_succ_cons,List.drop_zero]
 change wpStill Tryz.prog _ w.drew (fun a'=>wpList Tryz.prog _ _ _ a' w.drew) _ _
 generalize w.drew=W0 at *
 repeat still_step
 refine wpStill_nil ?_
 refine wpList_copy (Operand.tmp 73) (Operand.tmp 76) _ _ rfl rfl (.slice (some ⟨g,off+(k+1),none⟩) (n+1 - (k+1)) (cap - (k+1))) (.slice (some ⟨g,off+k,none⟩) (n+1 - k) (cap - k)) (by simp [Act.eval];done) (by simp [Act.eval];done) (hcp1 _ _ _) ?_
 go_wp2_with (first | (refine wpList_copy _ _ _ _ rfl rfl _ _ rfl rfl (hcp2 _ _) ?_))
 go_ret
 exact ⟨rfl,HR2.out,HK2.out⟩
theorem Row.grownIn {w:World} {e:TypeId} {N k n G:Nat} {xs:List Value} {x:Value} {zs:Array Value} (hl:xs.length=n) (hk:k < n) (hG:n+1<=G) (hGm:G<=maxLen) (hs:G<=((xs.take k).toArray++zs).size)
 (h:w.heap[N]?=some (.cells ((xs.take k).toArray++zs) e (0,0))) :
 Row ((w.setCells N k [x]).setCells N (k+1) (xs.drop k)) e 1 (.slice (some ⟨N,0,none⟩) (n+1) G) (xs.take k++x :: xs.drop k):=by
 have hd:(xs.drop k).length=n - k:=by simp [hl]
 obtain ⟨c1,a1,a2,a3,a4⟩:=setCells_same N e [x] k w _ h
 obtain ⟨c2,b1,b2,b3,b4⟩:=setCells_same N e (xs.drop k) (k+1) _ c1 a1
 refine .inr ⟨N,0,n+1,G,c2,rfl,b1,hG,hGm,by omega,by simp [hl];omega,fun j hj=>?_⟩
 rw [insAt xs k j x (by omega),Nat.zero_add]
 split
 . rename_i hjk
   rw [b3 _ (.inl (by omega)),a3 _ (.inl (by omega)),Array.getElem?_append_left (by simp;omega)]
   simp [hjk]
 . rename_i hjk
   split
   . rename_i hj2
     subst hj2
     rw [b3 _ (.inl (by omega))]
     have:=a4 (by simp only [List.length_cons,List.length_nil];omega) 0 (by simp)
     simpa using this
   . rename_i hj2
     have:=b4 (by omega) (j - k - 1) (by omega)
     rw [show k+1+(j - k - 1)=j from by omega] at this
     rw [this,List.getElem?_drop]
     congr 1;omega
theorem insert_grow (g off n cap k vb:Nat) (xs:List Value) (x:Addr) (w:World) (hrow:Row w 208 1 (.slice (some ⟨g,off,none⟩) n cap) xs) (h1:∀ u ∈ xs,u.oneCell'=true) (hk:k < n) (hc:cap < n+1) (hbig:(n+1)*8<=140737488355328)
 (hb:w.heap[vb]?=some (.cells #[.pointer (some x)] 208 (0,0))) :
 Calls Tryz.prog 167 #[.slice (some ⟨g,off,none⟩) n cap,.int .i64 k,.slice (some ⟨vb,0,none⟩) 1 1] w fun e w'=>∃ G,e=.returned (.slice (some ⟨w.heap.size,0,none⟩) (n+1) G)/\Row w' 208 1 (.slice (some ⟨w.heap.size,0,none⟩) (n+1) G) (xs.take k++.pointer (some x) :: xs.drop k)/\Below w.heap.size w w':=by
 obtain ⟨i,hi,hz0,hz1,hz2⟩:=info_parts infoPP
 have hsz:(Tryz.prog.info? 208).map (·.size)=some 1:=by rw [hi];simp [hz1]
 obtain ⟨cur,hg,hnc,hcm,hcs,hl,hcell⟩:∃ cur,w.heap[g]?=some (.cells cur 208 (0,0))/\n<=cap/\cap<=maxLen/\off+cap*1<=cur.size/\xs.length=n*1/\∀ j,j < n*1->cur[off+j]?=xs[j]?:=by
  rcases hrow with ⟨h,_⟩ | ⟨g',off',n',cap',cur,hv,hg,h0,h2,h3,h4,h5⟩
  . simp at h
  . simp only [Value.slice.injEq,Option.some.injEq,Addr.mk.injEq] at hv
    obtain ⟨⟨rfl,rfl,_⟩,rfl,rfl⟩:=hv
    exact ⟨cur,hg,h0,h2,h3,h4,h5⟩
 simp only [Nat.mul_one] at hcs hl hcell
 have hcap:cap=n:=by omega
 subst hcap
 unfold maxLen at hcm
 have hdl:(xs.drop k).length=cap - k:=by simp [hl]
 have hold:(Builtin.firstCells i.size k (.slice (some ⟨g,off,none⟩) k cap)).run Tryz.prog w.drew=.ok (xs.take k).toArray w.drew:=by
  rw [hz1]
  exact run_firstCells_some w.drew 1 k ⟨g,off,none⟩ k cap (xs.take k) (by rw [List.length_take];omega) (fun j v hj=>by
   have hjk:j < k:=by have:=(List.getElem?_eq_some_iff.1 hj).1;simp at this;omega
   rw [List.getElem?_take,if_pos hjk] at hj
   rw [Addr.add_lit,World.cell?_drew,cell_of_row w _ _ cur _ (0,0) hg,hcell j (by omega)];exact hj)
 have hkk:(cap:Int)+1 - (k:Int)=((cap+1 - k:Nat):Int):=by omega
 have hik:k+(cap+1 - k)=cap+1:=by omega
 have hrz:∀ ty,∃ G zs,cap+1<=G/\G<=maxLen/\G<=((xs.take k).toArray++zs).size/\(Builtin.append_ #[175,3] ty #[.slice (some ⟨g,off,none⟩) k cap,.int .i64 ((cap:Int)+1 - (k:Int))]).run Tryz.prog w =
  .ok (.slice (some ⟨w.heap.size,0,none⟩) (cap+1) G) (w.drew.alloc (.cells ((xs.take k).toArray++zs) 208)):=fun ty=>by
  have h:=Lib.run_append_grow_zeros w 175 3 ty 208 i _ .i64 .i64 Tryz.underlying175 Tryz.underlying3 hi hz0 (some ⟨g,off,none⟩) k cap (xs.take k) hold (cap+1 - k) (by omega) (by omega) (by omega) (by omega) (by rw [hz2];omega) (by rw [hz2,hik];exact growslice_fits hc hbig)
  rw [hik] at h
  rw [hkk]
  refine ⟨_,_,grownCap_ge w (cap+1) cap 208,grownCap_le_maxLen w (cap+1) cap 208 (by unfold maxLen;omega),?_,by rw [Array.append_assoc] at h;exact h⟩
  have:=grownCap_ge w (cap+1) cap 208
  simp only [Array.size_append,List.size_toArray,size_zeroCells,List.length_take]
  simp [Value.cells]
  omega
 obtain ⟨G,zs,hG,hGm,hGs,hrz⟩:=hrz 175
 have hN:(w.drew.alloc (.cells ((xs.take k).toArray++zs) 208)).heap[w.heap.size]?=some (.cells ((xs.take k).toArray++zs) 208 (0,0)):=heap_alloc_new w.drew _
 have hBW:Below w.heap.size w (w.drew.alloc (.cells ((xs.take k).toArray++zs) 208)):=((Below.refl _ w).drew).alloc (by simp) _
 have hb1:=blkBelow hb hBW
 have hg1:=blkBelow hg hBW
 have hgN:g ≠ w.heap.size:=by have:=blkLt hg;omega
 have hvN:vb ≠ w.heap.size:=by have:=blkLt hb;omega
 obtain ⟨N,HN⟩:∃ N,Hid (w.heap.size=N):=⟨_,rfl⟩
 rw [HN.out] at hrz hN hBW hgN hvN
 generalize w.drew.alloc (.cells ((xs.take k).toArray++zs) 208)=W1 at *
 have hcpA:∀ ty dc,(Builtin.copy_ #[175,175] ty #[.slice (some ⟨N,k,none⟩) (cap+1 - k) dc,.slice (some ⟨vb,0,none⟩) 1 1]).run Tryz.prog W1=.ok (goInt 1) (W1.setCells N k [.pointer (some x)]):=fun ty dc=>
  run_copy_cells W1 _ _ ty 208 N k (cap+1 - k) dc ⟨vb,0,none⟩ 1 1 [.pointer (some x)] Tryz.underlying175 hsz (by simp only [Nat.min_def,List.length_cons,List.length_nil];split <;> omega)
   (fun j v hj=>by
    cases j with
    | zero=>simp at hj;subst hj;exact blkCell hb1 rfl
    | succ j=>simp at hj)
   (fun j hj=>by rw [cell_of_row W1 _ _ _ _ (0,0) hN];simp only [List.length_cons,List.length_nil] at hj;rw [Array.getElem?_eq_getElem (by omega)];rfl) (fun j hj=>frozen_of_row W1 _ _ _ _ hN) (by simp [Value.oneCell'])
 have hrs:=Row.grownIn (w:=W1) (x:=.pointer (some x)) hl hk hG hGm hGs hN
 have hks:Below N w ((W1.setCells N k [.pointer (some x)]).setCells N (k+1) (xs.drop k)):=hBW.trans (((kept_setCells N k [.pointer (some x)] W1).trans (kept_setCells N (k+1) (xs.drop k) _)).toBelow (Nat.le_of_lt (blkLt hN)) (fun k hk e=>by omega))
 obtain ⟨c1,a1,a2,-,-⟩:=setCells_same N 208 [.pointer (some x)] k W1 _ hN
 have hg2:=(setCells_other N [.pointer (some x)] k W1 g hgN).trans hg1
 obtain ⟨W2,HW2⟩:∃ W2,Hid (W1.setCells N k [.pointer (some x)]=W2):=⟨_,rfl⟩
 rw [HW2.out] at hcpA hrs hks a1 hg2
 have hcpB:∀ ty dc sc,(Builtin.copy_ #[175,175] ty #[.slice (some ⟨N,k+1,none⟩) (cap+1 - (k+1)) dc,.slice (some ⟨g,off+k,none⟩) (cap - k) sc]).run Tryz.prog W2.drew=.ok (goInt (xs.drop k).length) (W2.drew.setCells N (k+1) (xs.drop k)):=fun ty dc sc=>
  run_copy_cells W2.drew _ _ ty 208 N (k+1) (cap+1 - (k+1)) dc ⟨g,off+k,none⟩ (cap - k) sc (xs.drop k) Tryz.underlying175 hsz (by rw [hdl];simp only [Nat.min_def];split <;> omega)
   (fun j v hj=>by
    rw [List.getElem?_drop] at hj
    have hjn:k+j < cap:=by have:=(List.getElem?_eq_some_iff.1 hj).1;omega
    rw [Addr.add_lit,World.cell?_drew,cell_of_row W2 _ _ cur _ (0,0) hg2,Nat.add_assoc,hcell (k+j) hjn];exact hj)
   (fun j hj=>by rw [World.cell?_drew,cell_of_row W2 _ _ c1 _ (0,0) a1,Array.getElem?_eq_getElem (by omega)];rfl) (fun j hj=>frozen_of_row W2 _ _ c1 _ a1) (fun v hv=>h1 v (List.mem_of_mem_drop hv))
 have hdr:W2.drew.setCells N (k+1) (xs.drop k)=(W2.setCells N (k+1) (xs.drop k)).drew:=by
  have:∀ (vs:List Value) (o:Nat) (w:World),w.drew.setCells N o vs=(w.setCells N o vs).drew:=by
   intro vs
   induction vs with
   | nil=>intro o w;rfl
   | cons v vs ih=>intro o w;exact ih (o+1) (w.setCell ⟨N,o,none⟩ v)
  exact this _ _ _
 rw [hdr] at hcpB
 obtain ⟨W3,HW3⟩:∃ W3,Hid (W2.setCells N (k+1) (xs.drop k)=W3):=⟨_,rfl⟩
 rw [HW3.out] at hcpB hrs hks
 have HR3:Hid (Row W3.drew 208 1 (.slice (some ⟨N,0,none⟩) (cap+1) G) (xs.take k++.pointer (some x) :: xs.drop k)):=hrs.congr (fun _ _=>rfl)
 have HB3:=hid hks.drew
 have hz2':¬ ((k:Int)=(cap:Int)):=by omega
 have hz3':(cap:Int) < (cap:Int)+1:=by omega
 have hw1:IntKind.i64.wrap ((k:Int)+1)=(k:Int)+1:=by rw [IntKind.wrap_i64];omega
 have hb1':(0:Int)<=(k:Int)+1:=by omega
 have htn:((k:Int)+1).toNat=k+1:=by omega
 have hGk:¬ (G=k):=by omega
 have hGk1:¬ (G=k+1):=by omega
 have hck:¬ (cap=k):=by omega
 have hin:k<=cap:=by omega
 have hin1:k<=cap+1:=by omega
 have hb3':(k:Int)<=(cap:Int):=by omega
 have hb6':(k:Int)<=(cap:Int)+1:=by omega
 unfold maxLen at hGm
 clear hrow hcell hg a1 a2 hb hb1 hg1 hg2 h1 hrs hks hold hkk hik hN hBW hGs hdr
 rw [HN.out]
 go_enter Tryz.func167,Tryz.ntmps167
 go_wp2_with (first
  | (at_builtin;refine Lib.wpList_append_run _ rfl _ _ _ _ rfl _ _ rfl rfl _ _ hrz ?_)
  | (at_builtin;refine wpList_copy _ _ _ _ rfl rfl _ _ rfl rfl (hcpA _ _) ?_))
 refine wp_region_still_tail 8 (by kernel_rfl) (by kernel_rfl) ?_
 simp only [List.take_succ_cons,List.take_zero,List.drop_succ_cons,List.drop_zero]
 change wpStill Tryz.prog _ W2.drew (fun a'=>wpList Tryz.prog _ _ _ a' W2.drew) _ _
 generalize W2.drew=W0 at *
 repeat still_step
 refine wpStill_nil ?_
 refine wpList_copy (Operand.tmp 50) (Operand.tmp 53) _ _ rfl rfl (.slice (some ⟨N,k+1,none⟩) (cap+1 - (k+1)) (G - (k+1))) (.slice (some ⟨g,off+k,none⟩) (cap - k) (cap - k)) (by simp [Act.eval];done) (by simp [Act.eval];done) (hcpB _ _ _) ?_
 go_wp2
 go_ret
 exact ⟨G,rfl,HR3.out,HB3.out⟩
theorem insert_end (a:Option Addr) (n cap vb:Nat) (xs:List Value) (x:Addr) (w:World) (hrow:Row w 208 1 (.slice a n cap) xs) (hl:xs.length=n) (hbig:(n+1)*8<=140737488355328)
 (hb:w.heap[vb]?=some (.cells #[.pointer (some x)] 208 (0,0))) :
 Calls Tryz.prog 167 #[.slice a n cap,.int .i64 n,.slice (some ⟨vb,0,none⟩) 1 1] w fun e w'=>∃ v,e=.returned v/\App w w' 208 1 (.slice a n cap) v xs [.pointer (some x)]:=by
 obtain ⟨i,hi,hz0,hz1,hz2⟩:=info_parts infoPP
 have HR:=hid hrow
 have hc0:w.cell? ⟨vb,0,none⟩=some (.pointer (some x)):=blkCell hb rfl
 obtain ⟨hnc,hcm⟩:n<=cap/\cap<=9223372036854775807:=by
  rcases hrow with ⟨h,_⟩ | ⟨g,off,n',cap',cur,h,_,h1,h2,_⟩
  . injection h with _ h1 h2;omega
  . injection h with _ e1 e2;subst e1 e2;unfold maxLen at h2;exact ⟨h1,h2⟩
 have hnn:(n:Int)<=(n:Int):=Int.le_refl _
 clear hrow hb
 cases a with
 | none=>
   have hx:n=0/\cap=0/\xs=[]:=by
    rcases HR.out with ⟨h,hx⟩ | ⟨g,off,n',cap',cur,h,_⟩
    . injection h with _ h1 h2;exact ⟨h1,h2,hx⟩
    . simp at h
   obtain ⟨rfl,rfl,rfl⟩:=hx
   go_enter Tryz.func167,Tryz.ntmps167
   go_wp2_with (at_builtin;go_must (refine wpList_append _ rfl _ _ _ _ rfl 208 i (.pointer none) 1 8 Tryz.underlying175 hi hz0 hz1 hz2 rfl Nat.one_pos (.slice none 0 0) [] rfl HR.out (.slice (some ⟨vb,0,none⟩) 1 1) 1 [.pointer (some x)] rfl ?hsrc Nat.one_pos ?h63 ?hby ?next))
   case hsrc=>exact Src.ofSlice _ Tryz.underlying175 ⟨vb,0,none⟩ 1 1 _ rfl (fun j u hu=>by cases j with | zero=>(simp at hu;subst hu;exact hc0) | succ j=>simp at hu) (by simp [Value.oneCell'])
   case h63=>simp [maxLen]
   case hby=>simp
   intro v w' ha
   have HA:=hid ha
   clear ha
   go_wp2
   go_ret
   exact ⟨v,rfl,HA.out⟩
 | some a=>
   obtain ⟨ab,ao,asp⟩:=a
   go_enter Tryz.func167,Tryz.ntmps167
   have hsrc:Src Tryz.prog 1 175 (.slice (some ⟨vb,0,none⟩) 1 1) 1 [.pointer (some x)] w:=Src.ofSlice _ Tryz.underlying175 ⟨vb,0,none⟩ 1 1 _ rfl (fun j u hu=>by cases j with | zero=>(simp at hu;subst hu;exact hc0) | succ j=>simp at hu) (by simp [Value.oneCell'])
   have h63:xs.length+1<=maxLen:=by unfold maxLen;omega
   have hby:(xs.length+1*1)*8<=140737488355328*1:=by omega
   go_wp2_with (at_builtin;go_must (refine wpList_append _ rfl _ _ _ _ rfl 208 i (.pointer none) 1 8 Tryz.underlying175 hi hz0 hz1 hz2 rfl Nat.one_pos (.slice (some ⟨ab,ao,asp⟩) n cap) xs rfl HR.out (.slice (some ⟨vb,0,none⟩) 1 1) 1 [.pointer (some x)] rfl hsrc Nat.one_pos h63 hby ?_;intro v w' ha;have HA:Hid (App w w' 208 1 (.slice (some ⟨ab,ao,asp⟩) n cap) v xs [.pointer (some x)]):=ha;clear ha))
   all_goals
    go_ret
    first
     | exact ⟨v,rfl,HA.out⟩
     | (rename_i hcn;have HA2:=HA.out;rw [hcn] at HA2;exact ⟨v,rfl,HA2⟩)
     | (rename_i hcn _;have HA2:=HA.out;rw [hcn] at HA2;exact ⟨v,rfl,HA2⟩)
     | (rename_i hcn _ _;have HA2:=HA.out;rw [hcn] at HA2;exact ⟨v,rfl,HA2⟩)
     | (have hcn:cap=n:=by omega
        have HA2:=HA.out;rw [hcn] at HA2;exact ⟨v,rfl,HA2⟩)
theorem insert_any (sv:Value) (k vb:Nat) (xs:List Value) (x:Addr) (w:World) (hrow:Row w 208 1 sv xs) (h1:∀ u ∈ xs,u.oneCell'=true) (hk:k<=xs.length) (hbig:(xs.length+1)*8<=140737488355328)
 (hb:w.heap[vb]?=some (.cells #[.pointer (some x)] 208 (0,0))) (hne:sv.ownBlock ≠ some vb) :
 Calls Tryz.prog 167 #[sv,.int .i64 k,.slice (some ⟨vb,0,none⟩) 1 1] w fun e w'=>∃ v,e=.returned v/\Row w' 208 1 v (xs.take k++.pointer (some x) :: xs.drop k)/\(∀ b,v.ownBlock=some b->sv.ownBlock=some b\/w.heap.size<=b)/\Kept (fun b=>sv.ownBlock=some b) w w':=by
 obtain ⟨a,cap,rfl,hnc⟩:=hrow.slice
 by_cases hkn:k=xs.length
 . subst hkn
   refine (insert_end a xs.length cap vb xs x w hrow rfl hbig hb).mono ?_
   rintro e w' ⟨v,rfl,ha⟩
   refine ⟨v,rfl,?_,fun b hb=>?_,Kept.ofGrown ha.grown⟩
   . rw [List.take_length,List.drop_length];exact ha.row
   . rcases ha.step with ⟨h,_⟩ | ⟨h,_⟩
     . left;rw [<- h];exact hb
     . right;rw [h] at hb;simp only [Option.some.injEq] at hb;omega
 . have hne0:xs ≠ []:=by rintro rfl;simp at hk;simp at hkn;omega
   obtain ⟨g,off,n,cap',hv,hn,hnc'⟩:=hrow.shape hne0
   simp only [Value.slice.injEq] at hv
   obtain ⟨rfl,rfl,rfl⟩:=hv
   by_cases hroom:xs.length+1<=cap
   . refine (insert_shift g off xs.length cap k vb xs x w hrow h1 (by omega) hroom hb (fun e=>hne (by rw [e];rfl))).mono ?_
     rintro e w' ⟨rfl,hr,hkp⟩
     exact ⟨_,rfl,hr,fun b hb=>.inl hb,hkp.mono (fun b _ hb=>by rw [hb];rfl)⟩
   . refine (insert_grow g off xs.length cap k vb xs x w hrow h1 (by omega) (by omega) hbig hb).mono ?_
     rintro e w' ⟨G,rfl,hr,hbl⟩
     exact ⟨_,rfl,hr,fun b hb=>.inr (by simp only [Value.ownBlock,Option.some.injEq] at hb;omega),Kept.ofBelow hbl _⟩
end Go.Proofs.YtcfngdnmpogaoaaGreat
