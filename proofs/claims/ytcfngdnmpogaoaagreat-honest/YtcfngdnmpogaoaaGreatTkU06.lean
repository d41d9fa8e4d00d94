import Derived.Test.YtcfngdnmpogaoaaGreatTkU05
import Derived.Laws.IdiomCopy
import Derived.Laws.Externs
import Derived.Lib.AppendZerosOnto
import Derived.Lib.Overlaps
import Derived.Lib.SliceRun
namespace Go.Proofs.YtcfngdnmpogaoaaGreat
open Go.RowKit Go.MuLone
set_option maxHeartbeats 3200000
set_option maxRecDepth 20000
theorem kept_setCells (g o:Nat) (vs:List Value) (w:World):Kept (fun k=>k=g) w (w.setCells g o vs):=by
 obtain ⟨s1,s2,s3,s4⟩:=setCells_streams g vs o w
 exact ⟨s1,s2,s3,Nat.le_of_eq s4.symm,fun k _ hk=>setCells_other g vs o w k hk⟩
theorem insAt (xs:List Value) (k j:Nat) (x:Value) (hk:k<=xs.length):(xs.take k++x :: xs.drop k)[j]?=if j < k then xs[j]? else if j=k then some x else xs[j - 1]?:=by
 split
 . rename_i h;rw [List.getElem?_append_left (by simp;omega),List.getElem?_take,if_pos h]
 . rename_i h
   rw [List.getElem?_append_right (by simp;omega),List.length_take,Nat.min_eq_left hk]
   split
   . rename_i h2;subst h2;simp
   . rename_i h2
     rw [show j - k=(j - k - 1)+1 from by omega,List.getElem?_cons_succ,List.getElem?_drop]
     congr 1;omega
theorem Row.shifted {w:World} {e:TypeId} {g off n cap:Nat} {xs:List Value} (h:Row w e 1 (.slice (some ⟨g,off,none⟩) n cap) xs) (k:Nat) (x:Value) (hk:k < n) (hc:n+1<=cap) :
 Row ((w.setCells g (off+(k+1)) (xs.drop k)).setCells g (off+k) [x]) e 1 (.slice (some ⟨g,off,none⟩) (n+1) cap) (xs.take k++x :: xs.drop k):=by
 rcases h with ⟨h,_⟩ | ⟨g',off',n',cap',cur,hv,hg,h1,h2,h3,h4,h5⟩
 . simp at h
 . simp only [Value.slice.injEq,Option.some.injEq,Addr.mk.injEq] at hv
   obtain ⟨⟨rfl,rfl,_⟩,rfl,rfl⟩:=hv
   have hl:xs.length=n:=by omega
   have hd:(xs.drop k).length=n - k:=by simp [hl]
   obtain ⟨c1,a1,a2,a3,a4⟩:=setCells_same g e (xs.drop k) (off+(k+1)) w cur hg
   obtain ⟨c2,b1,b2,b3,b4⟩:=setCells_same g e [x] (off+k) _ c1 a1
   refine .inr ⟨g,off,n+1,cap,c2,rfl,b1,hc,h2,by omega,by simp [hl];omega,fun j hj=>?_⟩
   rw [insAt xs k j x (by omega)]
   split
   . rename_i hjk
     rw [b3 _ (.inl (by omega)),a3 _ (.inl (by omega)),h5 j (by omega)]
   . rename_i hjk
     split
     . rename_i hj2
       subst hj2
       have:=b4 (by simp;omega) 0 (by simp)
       simpa using this
     . rename_i hj2
       rw [b3 _ (.inr (by simp;omega))]
       have:=a4 (by omega) (j - k - 1) (by omega)
       rw [show off+(k+1)+(j - k - 1)=off+j from by omega] at this
       rw [this,List.getElem?_drop]
       congr 1;omega
theorem insert_shift (g off n cap k vb:Nat) (xs:List Value) (x:Addr) (w:World) (hrow:Row w 208 1 (.slice (some ⟨g,off,none⟩) n cap) xs) (h1:∀ u ∈ xs,u.oneCell'=true) (hk:k < n) (hc:n+1<=cap)
 (hb:w.heap[vb]?=some (.cells #[.pointer (some x)] 208 (0,0))) (hne:vb ≠ g) :
 Calls Tryz.prog 167 #[.slice (some ⟨g,off,none⟩) n cap,.int .i64 k,.slice (some ⟨vb,0,none⟩) 1 1] w fun e w'=>e=.returned (.slice (some ⟨g,off,none⟩) (n+1) cap)/\Row w' 208 1 (.slice (some ⟨g,off,none⟩) (n+1) cap) (xs.take k++.pointer (some x) :: xs.drop k)/\Kept (fun k=>k=g) w w':=by
 obtain ⟨i,hi,hz0,hz1,hz2⟩:=info_parts infoPP
 have hsz:(Tryz.prog.info? 208).map (·.size)=some 1:=by rw [hi];simp [hz1]
 have hR:=hrow
 obtain ⟨cur,hg,hcm,hcs,hl,hcell⟩:∃ cur,w.heap[g]?=some (.cells cur 208 (0,0))/\cap<=maxLen/\off+cap*1<=cur.size/\xs.length=n*1/\∀ j,j < n*1->cur[off+j]?=xs[j]?:=by
  rcases hrow with ⟨h,_⟩ | ⟨g',off',n',cap',cur,hv,hg,_,h2,h3,h4,h5⟩
  . simp at h
  . simp only [Value.slice.injEq,Option.some.injEq,Addr.mk.injEq] at hv
    obtain ⟨⟨rfl,rfl,_⟩,rfl,rfl⟩:=hv
    exact ⟨cur,hg,h2,h3,h4,h5⟩
 simp only [Nat.mul_one] at hcs hl hcell
 unfold maxLen at hcm
 have hdl:(xs.drop k).length=n - k:=by simp [hl]
 have hov:∀ lb cb,(callFunc 174 #[.slice (some ⟨vb,0,none⟩) 1 1,.slice (some ⟨g,off+(k+1),none⟩) lb cb]).run Tryz.prog w=.ok (.value (.bool false)) w:=fun lb cb=>by
  rw [run_callFunc_extern Tryz.func174 (by kernel_rfl) (by kernel_rfl) (by kernel_rfl) (e:=Extern.SlicesOverlaps.overlaps #[175,175] #[4]) (by kernel_rfl),
   Lib.run_overlaps_apart w 175 4 208 Tryz.underlying175 1 Tryz.sizeOf208 ⟨vb,0,none⟩ ⟨g,off+(k+1),none⟩ 1 1 lb cb hne 208 208 1 cur.size (by simp [World.shape?,hb]) (by simp [World.shape?,hg]) (by omega) (blkFrozen hb 0) (blkFrozen hb 1)]
  rfl
 have hcp1:∀ ty dc sc,(Builtin.copy_ #[175,175] ty #[.slice (some ⟨g,off+(k+1),none⟩) (n+1 - (k+1)) dc,.slice (some ⟨g,off+k,none⟩) (n+1 - k) sc]).run Tryz.prog w.drew=.ok (goInt (xs.drop k).length) (w.drew.setCells g (off+(k+1)) (xs.drop k)):=fun ty dc sc=>
  run_copy_cells w.drew _ _ ty 208 g (off+(k+1)) (n+1 - (k+1)) dc ⟨g,off+k,none⟩ (n+1 - k) sc (xs.drop k) Tryz.underlying175 hsz (by rw [hdl];simp only [Nat.min_def];split <;> omega)
   (fun j v hj=>by
    rw [List.getElem?_drop] at hj
    have hjn:k+j < n:=by have:=(List.getElem?_eq_some_iff.1 hj).1;omega
    rw [Addr.add_lit,World.cell?_drew,cell_of_row w _ _ cur _ (0,0) hg,Nat.add_assoc,hcell (k+j) hjn];exact hj)
   (fun j hj=>by rw [World.cell?_drew,cell_of_row w _ _ cur _ (0,0) hg];simp;omega) (fun j hj=>frozen_of_row w _ _ cur _ hg) (fun v hv=>h1 v (List.mem_of_mem_drop hv))
 have hrs:=Row.shifted (w:=w.drew) (hR.congr (fun _ _=>rfl)) k (.pointer (some x)) hk hc
 have hks:Kept (fun k=>k=g) w ((w.drew.setCells g (off+(k+1)) (xs.drop k)).setCells g (off+k) [.pointer (some x)]):=(((Kept.refl _ w).drew).trans (kept_setCells g _ _ _)).trans (kept_setCells g _ _ _)
 obtain ⟨c1,a1,a2,-,-⟩:=setCells_same g 208 (xs.drop k) (off+(k+1)) w.drew cur hg
 have hb1:(w.drew.setCells g (off+(k+1)) (xs.drop k)).heap[vb]?=some (.cells #[.pointer (some x)] 208 (0,0)):=(setCells_other g _ _ _ vb hne).trans hb
 obtain ⟨W1,HW1⟩:∃ W1,Hid (w.drew.setCells g (off+(k+1)) (xs.drop k)=W1):=⟨_,rfl⟩
 rw [HW1.out] at hcp1 hrs hks a1 hb1
 have hcp2:∀ ty dc,(Builtin.copy_ #[175,175] ty #[.slice (some ⟨g,off+k,none⟩) (n+1 - k) dc,.slice (some ⟨vb,0,none⟩) 1 1]).run Tryz.prog W1=.ok (goInt 1) (W1.setCells g (off+k) [.pointer (some x)]):=fun ty dc=>
  run_copy_cells W1 _ _ ty 208 g (off+k) (n+1 - k) dc ⟨vb,0,none⟩ 1 1 [.pointer (some x)] Tryz.underlying175 hsz (by simp only [Nat.min_def,List.length_cons,List.length_nil];split <;> omega)
   (fun j v hj=>by
    cases j with
    | zero=>simp at hj;subst hj;exact blkCell hb1 rfl
    | succ j=>simp at hj)
   (fun j hj=>by rw [cell_of_row W1 _ _ c1 _ (0,0) a1];simp at hj ⊢;omega) (fun j hj=>frozen_of_row W1 _ _ c1 _ a1) (by simp [Value.oneCell'])
 have HR2:=hid hrs
 have HK2:=hid hks
 obtain ⟨W2,HW2⟩:∃ W2,Hid (W1.setCells g (off+k) [.pointer (some x)]=W2):=⟨_,rfl⟩
 rw [HW2.out] at hcp2 HR2 HK2
 have hz2':¬ ((k:Int)=(n:Int)):=by omega
 have hw1:IntKind.i64.wrap ((k:Int)+1)=(k:Int)+1:=by rw [IntKind.wrap_i64];omega
 have hb1':(0:Int)<=(k:Int)+1:=by omega
 have htn:((k:Int)+1).toNat=k+1:=by omega
 have hb2':¬ (cap=k+1):=by omega
 have hb4':¬ (cap=k):=by omega
 have hin:k<=n:=by omega
 have hb3':(k:Int)<=(n:Int)+1:=by omega
 have hb5':k<=n+1:=by omega
 clear hrow hR hcell hg a1 a2 hb hb1 h1 hrs hks
 go_enter Tryz.func167,Tryz.ntmps167
 go_wp2_with (simp only [hov])
 refine wp_region_still_tail 8 (by kernel_rfl) (by kernel_rfl) ?_
 simp only [List.take_succ_cons,List.take_zero,List.drop_succ_cons,List.drop_zero]
 change wpStill Tryz.prog _ w.drew (fun a'=>wpList Tryz.prog _ _ _ a' w.drew) _ _
 generalize w.drew=W0 at *
 repeat still_step
 refine wpStill_nil ?_
 refine wpList_copy (Operand.tmp 73) (Operand.tmp 76) _ _ rfl rfl (.slice (some ⟨g,off+(k+1),none⟩) (n+1 - (k+1)) (cap - (k+1))) (.slice (some ⟨g,off+k,none⟩) (n+1 - k) (cap - k)) (by simp [Act.eval];done) (by simp [Act.eval];done) (hcp1 _ _ _) ?_
 go_wp2_with (first | (refine wpList_copy _ _ _ _ rfl rfl _ _ rfl rfl (hcp2 _ _) ?_))
 go_ret
 exact ⟨rfl,HR2.out,HK2.out⟩
theorem Row.grownIn {w:World} {e:TypeId} {N k n G:Nat} {xs:List Value} {x:Value} {zs:Array Value} (hl:xs.length=n) (hk:k < n) (hG:n+1<=G) (hGm:G<=maxLen) (hs:G<=((xs.take k).toArray++zs).size)
 (h:w.heap[N]?=some (.cells ((xs.take k).toArray++zs) e (0,0))) :
 Row ((w.setCells N k [x]).setCells N (k+1) (xs.drop k)) e 1 (.slice (some ⟨N,0,none⟩) (n+1) G) (xs.take k++x :: xs.drop k):=by
 have hd:(xs.drop k).length=n - k:=by simp [hl]
 obtain ⟨c1,a1,a2,a3,a4⟩:=setCells_same N e [x] k w _ h
 obtain ⟨c2,b1,b2,b3,b4⟩:=setCells_same N e (xs.drop k) (k+1) _ c1 a1
 refine .inr ⟨N,0,n+1,G,c2,rfl,b1,hG,hGm,by omega,by simp [hl];omega,fun j hj=>?_⟩
 rw [insAt xs k j x (by omega),Nat.zero_add]
 split
 . rename_i hjk
   rw [b3 _ (.inl (by omega)),a3 _ (.inl (by omega)),Array.getElem?_append_left (by simp;omega)]
   simp [hjk]
 . rename_i hjk
   split
   . rename_i hj2
     subst hj2
     rw [b3 _ (.inl (by omega))]
     have:=a4 (by simp only [List.length_cons,List.length_nil];omega) 0 (by simp)
     simpa using this
   . rename_i hj2
     have:=b4 (by omega) (j - k - 1) (by omega)
     rw [show k+1+(j - k - 1)=j from by omega] at this
     rw [this,List.getElem?_drop]
     congr 1;omega
theorem insert_grow (g off n cap k vb:Nat) (xs:List Value) (x:Addr) (w:World) (hrow:Row w 208 1 (.slice (some ⟨g,off,none⟩) n cap) xs) (h1:∀ u ∈ xs,u.oneCell'=true) (hk:k < n) (hc:cap < n+1) (hbig:(n+1)*8<=140737488355328)
 (hb:w.heap[vb]?=some (.cells #[.pointer (some x)] 208 (0,0))) :
 Calls Tryz.prog 167 #[.slice (some ⟨g,off,none⟩) n cap,.int .i64 k,.slice (some ⟨vb,0,none⟩) 1 1] w fun e w'=>∃ G,e=.returned (.slice (some ⟨w.heap.size,0,none⟩) (n+1) G)/\Row w' 208 1 (.slice (some ⟨w.heap.size,0,none⟩) (n+1) G) (xs.take k++.pointer (some x) :: xs.drop k)/\Below w.heap.size w w':=by
 obtain ⟨i,hi,hz0,hz1,hz2⟩:=info_parts infoPP
 have hsz:(Tryz.prog.info? 208).map (·.size)=some 1:=by rw [hi];simp [hz1]
 obtain ⟨cur,hg,hnc,hcm,hcs,hl,hcell⟩:∃ cur,w.heap[g]?=some (.cells cur 208 (0,0))/\n<=cap/\cap<=maxLen/\off+cap*1<=cur.size/\xs.length=n*1/\∀ j,j < n*1->cur[off+j]?=xs[j]?:=by
  rcases hrow with ⟨h,_⟩ | ⟨g',off',n',cap',cur,hv,hg,h0,h2,h3,h4,h5⟩
  . simp at h
  . simp only [Value.slice.injEq,Option.some.injEq,Addr.mk.injEq] at hv
    obtain ⟨⟨rfl,rfl,_⟩,rfl,rfl⟩:=hv
    exact ⟨cur,hg,h0,h2,h3,h4,h5⟩
 simp only [Nat.mul_one] at hcs hl hcell
 have hcap:cap=n:=by omega
 subst hcap
 unfold maxLen at hcm
 have hdl:(xs.drop k).length=cap - k:=by simp [hl]
 have hold:(Builtin.firstCells i.size k (.slice (some ⟨g,off,none⟩) k cap)).run Tryz.prog w.drew=.ok (xs.take k).toArray w.drew:=by
  rw [hz1]
  exact run_firstCells_some w.drew 1 k ⟨g,off,none⟩ k cap (xs.take k) (by rw [List.length_take];omega) (fun j v hj=>by
   have hjk:j < k:=by have:=(List.getElem?_eq_some_iff.1 hj).1;simp at this;omega
   rw [List.getElem?_take,if_pos hjk] at hj
   rw [Addr.add_lit,World.cell?_drew,cell_of_row w _ _ cur _ (0,0) hg,hcell j (by omega)];exact hj)
 have hkk:(cap:Int)+1 - (k:Int)=((cap+1 - k:Nat):Int):=by omega
 have hik:k+(cap+1 - k)=cap+1:=by omega
 have hrz:∀ ty,∃ G zs,cap+1<=G/\G<=maxLen/\G<=((xs.take k).toArray++zs).size/\(Builtin.append_ #[175,3] ty #[.slice (some ⟨g,off,none⟩) k cap,.int .i64 ((cap:Int)+1 - (k:Int))]).run Tryz.prog w =
  .ok (.slice (some ⟨w.heap.size,0,none⟩) (cap+1) G) (w.drew.alloc (.cells ((xs.take k).toArray++zs) 208)):=fun ty=>by
  have h:=Lib.run_append_grow_zeros w 175 3 ty 208 i _ .i64 .i64 Tryz.underlying175 Tryz.underlying3 hi hz0 (some ⟨g,off,none⟩) k cap (xs.take k) hold (cap+1 - k) (by omega) (by omega) (by omega) (by omega) (by rw [hz2];omega) (by rw [hz2,hik];exact growslice_fits hc hbig)
  rw [hik] at h
  rw [hkk]
  refine ⟨_,_,grownCap_ge w (cap+1) cap 208,grownCap_le_maxLen w (cap+1) cap 208 (by unfold maxLen;omega),?_,by rw [Array.append_assoc] at h;exact h⟩
  have:=grownCap_ge w (cap+1) cap 208
  simp only [Array.size_append,List.size_toArray,size_zeroCells,List.length_take]
  simp [Value.cells]
  omega
 obtain ⟨G,zs,hG,hGm,hGs,hrz⟩:=hrz 175
 have hN:(w.drew.alloc (.cells ((xs.take k).toArray++zs) 208)).heap[w.heap.size]?=some (.cells ((xs.take k).toArray++zs) 208 (0,0)):=heap_alloc_new w.drew _
 have hBW:Below w.heap.size w (w.drew.alloc (.cells ((xs.take k).toArray++zs) 208)):=((Below.refl _ w).drew).alloc (by simp) _
 have hb1:=blkBelow hb hBW
 have hg1:=blkBelow hg hBW
 have hgN:g ≠ w.heap.size:=by have:=blkLt hg;omega
 have hvN:vb ≠ w.heap.size:=by have:=blkLt hb;omega
 obtain ⟨N,HN⟩:∃ N,Hid (w.heap.size=N):=⟨_,rfl⟩
 rw [HN.out] at hrz hN hBW hgN hvN
 generalize w.drew.alloc (.cells ((xs.take k).toArray++zs) 208)=W1 at *
 have hcpA:∀ ty dc,(Builtin.copy_ #[175,175] ty #[.slice (some ⟨N,k,none⟩) (cap+1 - k) dc,.slice (some ⟨vb,0,none⟩) 1 1]).run Tryz.prog W1=.ok (goInt 1) (W1.setCells N k [.pointer (some x)]):=fun ty dc=>
  run_copy_cells W1 _ _ ty 208 N k (cap+1 - k) dc ⟨vb,0,none⟩ 1 1 [.pointer (some x)] Tryz.underlying175 hsz (by simp only [Nat.min_def,List.length_cons,List.length_nil];split <;> omega)
   (fun j v hj=>by
    cases j with
    | zero=>simp at hj;subst hj;exact blkCell hb1 rfl
    | succ j=>simp at hj)
   (fun j hj=>by rw [cell_of_row W1 _ _ _ _ (0,0) hN];simp only [List.length_cons,List.length_nil] at hj;rw [Array.getElem?_eq_getElem (by omega)];rfl) (fun j hj=>frozen_of_row W1 _ _ _ _ hN) (by simp [Value.oneCell'])
 have hrs:=Row.grownIn (w:=W1) (x:=.pointer (some x)) hl hk hG hGm hGs hN
 have hks:Below N w ((W1.setCells N k [.pointer (some x)]).setCells N (k+1) (xs.drop k)):=hBW.trans (((kept_setCells N k [.pointer (some x)] W1).trans (kept_setCells N (k+1) (xs.drop k) _)).toBelow (Nat.le_of_lt (blkLt hN)) (fun k hk e=>by omega))
 obtain ⟨c1,a1,a2,-,-⟩:=setCells_same N 208 [.pointer (some x)] k W1 _ hN
 have hg2:=(setCells_other N [.pointer (some x)] k W1 g hgN).trans hg1
 obtain ⟨W2,HW2⟩:∃ W2,Hid (W1.setCells N k [.pointer (some x)]=W2):=⟨_,rfl⟩
 rw [HW2.out] at hcpA hrs hks a1 hg2
 have hcpB:∀ ty dc sc,(Builtin.copy_ #[175,175] ty #[.slice (some ⟨N,k+1,none⟩) (cap+1 - (k+1)) dc,.slice (some ⟨g,off+k,none⟩) (cap - k) sc]).run Tryz.prog W2.drew=.ok (goInt (xs.drop k).length) (W2.drew.setCells N (k+1) (xs.drop k)):=fun ty dc sc=>
  run_copy_cells W2.drew _ _ ty 208 N (k+1) (cap+1 - (k+1)) dc ⟨g,off+k,none⟩ (cap - k) sc (xs.drop k) Tryz.underlying175 hsz (by rw [hdl];simp only [Nat.min_def];split <;> omega)
   (fun j v hj=>by
    rw [List.getElem?_drop] at hj
    have hjn:k+j < cap:=by have:=(List.getElem?_eq_some_iff.1 hj).1;omega
    rw [Addr.add_lit,World.cell?_drew,cell_of_row W2 _ _ cur _ (0,0) hg2,Nat.add_assoc,hcell (k+j) hjn];exact hj)
   (fun j hj=>by rw [World.cell?_drew,cell_of_row W2 _ _ c1 _ (0,0) a1,Array.getElem?_eq_getElem (by omega)];rfl) (fun j hj=>frozen_of_row W2 _ _ c1 _ a1) (fun v hv=>h1 v (List.mem_of_mem_drop hv))
 have hdr:W2.drew.setCells N (k+1) (xs.drop k)=(W2.setCells N (k+1) (xs.drop k)).drew:=by
  have:∀ (vs:List Value) (o:Nat) (w:World),w.drew.setCells N o vs=(w.setCells N o vs).drew:=by
   intro vs
   induction vs with
   | nil=>intro o w;rfl
   | cons v vs ih=>intro o w;exact ih (o+1) (w.setCell ⟨N,o,none⟩ v)
  exact this _ _ _
 rw [hdr] at hcpB
 obtain ⟨W3,HW3⟩:∃ W3,Hid (W2.setCells N (k+1) (xs.drop k)=W3):=⟨_,rfl⟩
 rw [HW3.out] at hcpB hrs hks
 have HR3:Hid (Row W3.drew 208 1 (.slice (some ⟨N,0,none⟩) (cap+1) G) (xs.take k++.pointer (some x) :: xs.drop k)):=hrs.congr (fun _ _=>rfl)
 have HB3:=hid hks.drew
 have hz2':¬ ((k:Int)=(cap:Int)):=by omega
 have hz3':(cap:Int) < (cap:Int)+1:=by omega
 have hw1:IntKind.i64.wrap ((k:Int)+1)=(k:Int)+1:=by rw [IntKind.wrap_i64];omega
 have hb1':(0:Int)<=(k:Int)+1:=by omega
 have htn:((k:Int)+1).toNat=k+1:=by omega
 have hGk:¬ (G=k):=by omega
 have hGk1:¬ (G=k+1):=by omega
 have hck:¬ (cap=k):=by omega
 have hin:k<=cap:=by omega
 have hin1:k<=cap+1:=by omega
 have hb3':(k:Int)<=(cap:Int):=by omega
 have hb6':(k:Int)<=(cap:Int)+1:=by omega
 unfold maxLen at hGm
 clear hrow hcell hg a1 a2 hb hb1 hg1 hg2 h1 hrs hks hold hkk hik hN hBW hGs hdr
 rw [HN.out]
 go_enter Tryz.func167,Tryz.ntmps167
 go_wp2_with (first
  | (at_builtin;refine Lib.wpList_append_run _ rfl _ _ _ _ rfl _ _ rfl rfl _ _ hrz ?_)
  | (at_builtin;refine wpList_copy _ _ _ _ rfl rfl _ _ rfl rfl (hcpA _ _) ?_))
 refine wp_region_still_tail 8 (by kernel_rfl) (by kernel_rfl) ?_
 simp only [List.take_succ_cons,List.take_zero,List.drop_succ_cons,List.drop_zero]
 change wpStill Tryz.prog _ W2.drew (fun a'=>wpList Tryz.prog _ _ _ a' W2.drew) _ _
 generalize W2.drew=W0 at *
 repeat still_step
 refine wpStill_nil ?_
 refine wpList_copy (Operand.tmp 50) (Operand.tmp 53) _ _ rfl rfl (.slice (some ⟨N,k+1,none⟩) (cap+1 - (k+1)) (G - (k+1))) (.slice (some ⟨g,off+k,none⟩) (cap - k) (cap - k)) (by simp [Act.eval];done) (by simp [Act.eval];done) (hcpB _ _ _) ?_
 go_wp2
 go_ret
 exact ⟨G,rfl,HR3.out,HB3.out⟩
theorem insert_end (a:Option Addr) (n cap vb:Nat) (xs:List Value) (x:Addr) (w:World) (hrow:Row w 208 1 (.slice a n cap) xs) (hl:xs.length=n) (hbig:(n+1)*8<=140737488355328)
 (hb:w.heap[vb]?=some (.cells #[.pointer (some x)] 208 (0,0))) :
 Calls Tryz.prog 167 #[.slice a n cap,.int .i64 n,.slice (some ⟨vb,0,none⟩) 1 1] w fun e w'=>∃ v,e=.returned v/\App w w' 208 1 (.slice a n cap) v xs [.pointer (some x)]:=by
 obtain ⟨i,hi,hz0,hz1,hz2⟩:=info_parts infoPP
 have HR:=hid hrow
 have hc0:w.cell? ⟨vb,0,none⟩=some (.pointer (some x)):=blkCell hb rfl
 obtain ⟨hnc,hcm⟩:n<=cap/\cap<=9223372036854775807:=by
  rcases hrow with ⟨h,_⟩ | ⟨g,off,n',cap',cur,h,_,h1,h2,_⟩
  . injection h with _ h1 h2;omega
  . injection h with _ e1 e2;subst e1 e2;unfold maxLen at h2;exact ⟨h1,h2⟩
 have hnn:(n:Int)<=(n:Int):=Int.le_refl _
 clear hrow hb
 cases a with
 | none=>
   have hx:n=0/\cap=0/\xs=[]:=by
    rcases HR.out with ⟨h,hx⟩ | ⟨g,off,n',cap',cur,h,_⟩
    . injection h with _ h1 h2;exact ⟨h1,h2,hx⟩
    . simp at h
   obtain ⟨rfl,rfl,rfl⟩:=hx
   go_enter Tryz.func167,Tryz.ntmps167
   go_wp2_with (at_builtin;go_must (refine wpList_append _ rfl _ _ _ _ rfl 208 i (.pointer none) 1 8 Tryz.underlying175 hi hz0 hz1 hz2 rfl Nat.one_pos (.slice none 0 0) [] rfl HR.out (.slice (some ⟨vb,0,none⟩) 1 1) 1 [.pointer (some x)] rfl ?hsrc Nat.one_pos ?h63 ?hby ?next))
   case hsrc=>exact Src.ofSlice _ Tryz.underlying175 ⟨vb,0,none⟩ 1 1 _ rfl (fun j u hu=>by cases j with | zero=>(simp at hu;subst hu;exact hc0) | succ j=>simp at hu) (by simp [Value.oneCell'])
   case h63=>simp [maxLen]
   case hby=>simp
   intro v w' ha
   have HA:=hid ha
   clear ha
   go_wp2
   go_ret
   exact ⟨v,rfl,HA.out⟩
 | some a=>
   obtain ⟨ab,ao,asp⟩:=a
   go_enter Tryz.func167,Tryz.ntmps167
   have hsrc:Src Tryz.prog 1 175 (.slice (some ⟨vb,0,none⟩) 1 1) 1 [.pointer (some x)] w:=Src.ofSlice _ Tryz.underlying175 ⟨vb,0,none⟩ 1 1 _ rfl (fun j u hu=>by cases j with | zero=>(simp at hu;subst hu;exact hc0) | succ j=>simp at hu) (by simp [Value.oneCell'])
   have h63:xs.length+1<=maxLen:=by unfold maxLen;omega
   have hby:(xs.length+1*1)*8<=140737488355328*1:=by omega
   go_wp2_with (at_builtin;go_must (refine wpList_append _ rfl _ _ _ _ rfl 208 i (.pointer none) 1 8 Tryz.underlying175 hi hz0 hz1 hz2 rfl Nat.one_pos (.slice (some ⟨ab,ao,asp⟩) n cap) xs rfl HR.out (.slice (some ⟨vb,0,none⟩) 1 1) 1 [.pointer (some x)] rfl hsrc Nat.one_pos h63 hby ?_;intro v w' ha;have HA:Hid (App w w' 208 1 (.slice (some ⟨ab,ao,asp⟩) n cap) v xs [.pointer (some x)]):=ha;clear ha))
   all_goals
    go_ret
    first
     | exact ⟨v,rfl,HA.out⟩
     | (rename_i hcn;have HA2:=HA.out;rw [hcn] at HA2;exact ⟨v,rfl,HA2⟩)
     | (rename_i hcn _;have HA2:=HA.out;rw [hcn] at HA2;exact ⟨v,rfl,HA2⟩)
     | (rename_i hcn _ _;have HA2:=HA.out;rw [hcn] at HA2;exact ⟨v,rfl,HA2⟩)
     | (have hcn:cap=n:=by omega
        have HA2:=HA.out;rw [hcn] at HA2;exact ⟨v,rfl,HA2⟩)
theorem insert_any (sv:Value) (k vb:Nat) (xs:List Value) (x:Addr) (w:World) (hrow:Row w 208 1 sv xs) (h1:∀ u ∈ xs,u.oneCell'=true) (hk:k<=xs.length) (hbig:(xs.length+1)*8<=140737488355328)
 (hb:w.heap[vb]?=some (.cells #[.pointer (some x)] 208 (0,0))) (hne:sv.ownBlock ≠ some vb) :
 Calls Tryz.prog 167 #[sv,.int .i64 k,.slice (some ⟨vb,0,none⟩) 1 1] w fun e w'=>∃ v,e=.returned v/\Row w' 208 1 v (xs.take k++.pointer (some x) :: xs.drop k)/\(∀ b,v.ownBlock=some b->sv.ownBlock=some b\/w.heap.size<=b)/\Kept (fun b=>sv.ownBlock=some b) w w':=by
 obtain ⟨a,cap,rfl,hnc⟩:=hrow.slice
 by_cases hkn:k=xs.length
 . subst hkn
   refine (insert_end a xs.length cap vb xs x w hrow rfl hbig hb).mono ?_
   rintro e w' ⟨v,rfl,ha⟩
   refine ⟨v,rfl,?_,fun b hb=>?_,Kept.ofGrown ha.grown⟩
   . rw [List.take_length,List.drop_length];exact ha.row
   . rcases ha.step with ⟨h,_⟩ | ⟨h,_⟩
     . left;rw [<- h];exact hb
     . right;rw [h] at hb;simp only [Option.some.injEq] at hb;omega
 . have hne0:xs ≠ []:=by rintro rfl;simp at hk;simp at hkn;omega
   obtain ⟨g,off,n,cap',hv,hn,hnc'⟩:=hrow.shape hne0
   simp only [Value.slice.injEq] at hv
   obtain ⟨rfl,rfl,rfl⟩:=hv
   by_cases hroom:xs.length+1<=cap
   . refine (insert_shift g off xs.length cap k vb xs x w hrow h1 (by omega) hroom hb (fun e=>hne (by rw [e];rfl))).mono ?_
     rintro e w' ⟨rfl,hr,hkp⟩
     exact ⟨_,rfl,hr,fun b hb=>.inl hb,hkp.mono (fun b _ hb=>by rw [hb];rfl)⟩
   . refine (insert_grow g off xs.length cap k vb xs x w hrow h1 (by omega) (by omega) hbig hb).mono ?_
     rintro e w' ⟨G,rfl,hr,hbl⟩
     exact ⟨_,rfl,hr,fun b hb=>.inr (by simp only [Value.ownBlock,Option.some.injEq] at hb;omega),Kept.ofBelow hbl _⟩
end Go.Proofs.YtcfngdnmpogaoaaGreat
namespace Go.Proofs.YtcfngdnmpogaoaaGreat
open Go.RowKit Go.MuLone
set_option maxHeartbeats 12800000
set_option maxRecDepth 20000
def ptrs (qs:List PaneQ):List Value:=qs.map fun q=>.pointer (some ⟨q.P,0,none⟩)
structure Found (qs:List PaneQ) (f l:Int) (k:Nat) (fd:Bool):Prop where
 le:k<=qs.length
 less:∀ (t:Nat) q,t < k->qs[t]?=some q->cmpW q.f q.l f l < 0
 more:∀ (t:Nat) q,k<=t->qs[t]?=some q->0<=cmpW q.f q.l f l
 here:fd=true ↔ ∃ q,qs[k]?=some q/\cmpW q.f q.l f l=0
theorem bsearch_all (sv:Value) (qs:List PaneQ) (f l:Int) (w:World) (hrow:Row w 208 1 sv (ptrs qs))
 (hc:∀ q ∈ qs,w.cell? ⟨q.P,0,none⟩=some (.int .i64 q.f)/\w.cell? ⟨q.P,1,none⟩=some (.int .i64 q.l))
 (hmono:∀ (a b:Nat) qa qb,a<=b->qs[a]?=some qa->qs[b]?=some qb->cmpW qb.f qb.l f l < 0->cmpW qa.f qa.l f l < 0) (hsz:qs.length<=4611686018427387904) :
 Calls Tryz.prog 164 #[sv,.agg #[.int .i64 f,.int .i64 l],.func (.func 165) #[] #[]] w fun e w'=>∃ (k:Nat) (fd:Bool),Found qs f l k fd/\e=.returned (.tuple #[.int .i64 (k:Int),.bool fd])/\Below w.heap.size w w':=by
 by_cases hq:qs=[]
 . subst hq
   obtain ⟨a,c,rfl,-⟩:=hrow.slice
   refine (bsearch_zero a c f l _ w).mono ?_
   rintro e w' ⟨rfl,hb⟩
   exact ⟨0,false,⟨Nat.le_refl _,fun t q h=>by omega,fun t q _ h=>by simp at h,⟨fun h=>(by cases h),by rintro ⟨q,h,_⟩;simp at h⟩⟩,rfl,hb⟩
 . obtain ⟨g,o,n,c,rfl,hn,hnc⟩:=hrow.shape (by unfold ptrs;simpa using hq)
   have hn':n=qs.length:=by unfold ptrs at hn;simp at hn;omega
   subst hn'
   refine (bsearch_any g o c qs f l w hrow hc hmono hsz).mono ?_
   rintro e w' ⟨k,h1,h2,h3,⟨fd,rfl,h4⟩,hb⟩
   exact ⟨k,fd,⟨h1,h2,h3,h4⟩,rfl,hb⟩
theorem ptrs_one (qs:List PaneQ):∀ u ∈ ptrs qs,u.oneCell'=true:=fun u hu=>by
 unfold ptrs at hu
 obtain ⟨q,_,rfl⟩:=List.mem_map.1 hu;rfl
theorem ptrs_len (qs:List PaneQ):(ptrs qs).length=qs.length:=by simp [ptrs]
theorem paneOf_raw (R:Nat) (key:ByteArray) (pv qv:Value) (inside next f l:Int) (qs:List PaneQ) (w:World) (hR:w.heap[R]?=some (.cells (runCells key pv inside next qv) 178 (0,0)))
 (hrow:Row w 208 1 pv (ptrs qs))
 (hc:∀ q ∈ qs,w.cell? ⟨q.P,0,none⟩=some (.int .i64 q.f)/\w.cell? ⟨q.P,1,none⟩=some (.int .i64 q.l))
 (hmono:∀ (a b:Nat) qa qb,a<=b->qs[a]?=some qa->qs[b]?=some qb->cmpW qb.f qb.l f l < 0->cmpW qa.f qa.l f l < 0) (hsz:qs.length<=1000000000000) :
 Calls Tryz.prog 147 #[.pointer (some ⟨R,0,none⟩),.agg #[.int .i64 f,.int .i64 l]] w fun e w'=>∃ (k P:Nat) (fd:Bool),Found qs f l k fd/\e=.returned (.pointer (some ⟨P,0,none⟩)) /\
  ((fd=true/\(∃ q,qs[k]?=some q/\q.P=P)/\Below w.heap.size w w') \/
   (fd=false/\∃ M pv',w.heap.size<=P/\w.heap.size<=M/\P ≠ M/\w'.heap[P]?=some (.cells (paneCells f l 0 0 9223372036854775807 (-9223372036854775808) M) 207 (0,0))/\w'.heap[M]?=some (.map #[] 0) /\
    w'.heap[R]?=some (.cells (runCells key pv' inside next qv) 178 (0,0))/\Row w' 208 1 pv' ((ptrs qs).take k++.pointer (some ⟨P,0,none⟩) :: (ptrs qs).drop k)/\(∀ b,pv'.ownBlock=some b->pv.ownBlock=some b\/w.heap.size<=b)/\Kept (fun b=>b=R\/pv.ownBlock=some b) w w')):=by
 have hRs:=blkLt hR
 have B1:Below w.heap.size w (w.alloc (.cells #[.int .i64 f,.int .i64 l] 202)):=(Below.refl _ w).alloc (Nat.le_refl _) _
 have hR1:=blkBelow hR B1
 have hx1:=heap_alloc_new w (.cells #[.int .i64 f,.int .i64 l] 202)
 have hrow1:=hrow.below B1 (fun k hk=>(hrow.blk_lt hk).1)
 have hc1:∀ q ∈ qs,(w.alloc (.cells #[.int .i64 f,.int .i64 l] 202)).cell? ⟨q.P,0,none⟩=some (.int .i64 q.f)/\(w.alloc (.cells #[.int .i64 f,.int .i64 l] 202)).cell? ⟨q.P,1,none⟩=some (.int .i64 q.l):=fun q hq=>by
  obtain ⟨h0,h1⟩:=hc q hq
  exact ⟨(B1.cell (p:=⟨q.P,0,none⟩) (World.block_lt_of_cell? w ⟨q.P,0,none⟩ h0)).trans h0,(B1.cell (p:=⟨q.P,1,none⟩) (World.block_lt_of_cell? w ⟨q.P,1,none⟩ h1)).trans h1⟩
 have hbs:Hid (∀ W,(∀ k,k < (w.alloc (.cells #[.int .i64 f,.int .i64 l] 202)).heap.size->W.heap[k]?=(w.alloc (.cells #[.int .i64 f,.int .i64 l] 202)).heap[k]?)->Calls Tryz.prog 164 #[pv,.agg #[.int .i64 f,.int .i64 l],.func (.func 165) #[] #[]] W fun e w'=>∃ (k:Nat) (fd:Bool),Found qs f l k fd/\e=.returned (.tuple #[.int .i64 (k:Int),.bool fd])/\Below W.heap.size W w'):=fun W hW=>by
  refine bsearch_all pv qs f l W (hrow1.congr (fun k hk=>hW k (hrow1.blk_lt hk).1)) (fun q hq=>?_) hmono (by omega)
  obtain ⟨h0,h1⟩:=hc1 q hq
  have hl:=World.block_lt_of_cell? _ ⟨q.P,0,none⟩ h0
  simp only [World.cell?,hW q.P hl] at h0 h1 ⊢
  exact ⟨h0,h1⟩
 obtain ⟨pa,pc,hpv,hpc⟩:=hrow.slice
 rw [ptrs_len] at hpv hpc
 have HROW:=hid hrow
 have HB1:=hid B1
 have HR0:=hid hR
 clear hc1 hc hmono hrow1 hrow B1 hR
 go_enter Tryz.func147,Tryz.ntmps147
 go_upto_region 1 with fail
 have hRB:¬ R=w.heap.size:=by omega
 have hsz1:w.heap.size < (w.alloc (.cells #[.int .i64 f,.int .i64 l] 202)).heap.size:=by simp
 obtain ⟨B,HBB⟩:∃ B,Hid (w.heap.size=B):=⟨_,rfl⟩
 rw [HBB.out] at hx1 hRB hsz1 HB1 hRs ⊢
 generalize w.alloc (.cells #[.int .i64 f,.int .i64 l] 202)=W1 at *
 subst hpv
 go_cut [5,6] from 7 to 15 (fun s5 s6 wx=>∃ (k:Nat) (fd:Bool),s5=.int .i64 (k:Int)/\s6=.bool fd/\Found qs f l k fd/\wx.heap[B]?=some (.cells #[.int .i64 f,.int .i64 l] 202 (0,0))/\Below B w wx)
 case first=>
  obtain ⟨-,r1,-,-,-,fz⟩:=runAt hR1
  obtain ⟨x0,x1,-,-⟩:=cells2At hx1
  have HX1:=hid hx1
  clear hR1 hx1
  go_region_with (go_at_call 164;refine (hbs.out W1.drew (fun _ _=>rfl)).mono ?_;rintro e w' ⟨k,fd,hF,rfl,hb⟩;have HF:Hid (Found qs f l k fd):=hF;clear hF)
  all_goals
   go_wp2
   go_meet
   refine ⟨k,fd,rfl,rfl,HF.out,?_,?_⟩
   . rw [hb.block B (by simpa using hsz1)];exact HX1.out
   . exact HB1.out.trans ((((Below.refl B W1).drew)).trans (hb.mono (by simpa using Nat.le_of_lt hsz1)))
 case rest=>
  obtain ⟨k,fd,rfl,rfl,hF,hx2,hb2⟩:=hcut
  have hkl:=hF.le
  have HF:=hid hF
  have HB2:=hid hb2
  have HR2:=hid ((hb2.block R (by omega)).trans HR0.out)
  have HROW2:=hid (HROW.out.below hb2 (fun b hb=>by rw [<- HBB.out];exact (HROW.out.blk_lt hb).1))
  clear hR1 hx1 hF hb2 hbs
  cases fd with
  | true=>
    obtain ⟨q,hq,h0⟩:=HF.out.here.1 rfl
    have hkq:k < qs.length:=(List.getElem?_eq_some_iff.1 hq).1
    obtain ⟨g,o,n,c,hv,-,-⟩:=HROW2.out.shape (by intro e;have:=ptrs_len qs;rw [e] at this;simp at this;omega)
    simp only [Value.slice.injEq] at hv
    obtain ⟨rfl,rfl,rfl⟩:=hv
    have hcell:=HROW2.out.cell k (by omega)
    rw [ptrs,List.getElem?_map,hq] at hcell
    obtain ⟨-,r1,-,-,-,-⟩:=runAt HR2.out
    have hkq':(k:Int) < (qs.length:Int):=by omega
    go_wp2
    go_ret
    exact ⟨k,q.P,true,HF.out,rfl,.inl ⟨rfl,⟨q,hq,rfl⟩,by rw [HBB.out];exact HB2.out⟩⟩
  | false=>
    go_upto_region 3 with fail
    go_cut [27] from 18 to 29 (fun _ wx=>∃ P M pv',B<=P/\B<=M/\P ≠ M/\wx.heap[P]?=some (.cells (paneCells f l 0 0 9223372036854775807 (-9223372036854775808) M) 207 (0,0))/\wx.heap[M]?=some (.map #[] 0) /\
     wx.heap[R]?=some (.cells (runCells key pv' inside next qv) 178 (0,0))/\Row wx 208 1 pv' ((ptrs qs).take k++.pointer (some ⟨P,0,none⟩) :: (ptrs qs).drop k)/\(∀ b,pv'.ownBlock=some b->(Value.slice pa qs.length pc).ownBlock=some b\/B<=b)/\Kept (fun b=>b=R\/(Value.slice pa qs.length pc).ownBlock=some b) w wx)
    case first=>
     obtain ⟨-,r1,-,-,-,fz⟩:=runAt HR2.out
     obtain ⟨x0,x1,-,-⟩:=cells2At hx2
     have hRs2:=blkLt HR2.out
     have hBs2:=blkLt hx2
     clear hx2
     have hins:Hid (∀ (w1:World) (P:Nat),Below wc.heap.size wc w1->Calls Tryz.prog 167 #[.slice pa qs.length pc,.int .i64 (k:Int),.slice (some ⟨w1.heap.size,0,none⟩) 1 1] (w1.alloc (.cells #[.pointer (some ⟨P,0,none⟩)] 208)) fun e w'=>∃ va vn vc,e=.returned (.slice va vn vc)/\Row w' 208 1 (.slice va vn vc) ((ptrs qs).take k++.pointer (some ⟨P,0,none⟩) :: (ptrs qs).drop k)/\(∀ b,(Value.slice va vn vc).ownBlock=some b->(Value.slice pa qs.length pc).ownBlock=some b\/w1.heap.size<=b)/\Kept (fun b=>(Value.slice pa qs.length pc).ownBlock=some b) w1 w'):=fun w1 P hb1=>by
      have r1:=HROW2.out.below hb1 (fun b hb=>(HROW2.out.blk_lt hb).1)
      have ba:Below w1.heap.size w1 (w1.alloc (.cells #[.pointer (some ⟨P,0,none⟩)] 208)):=(Below.refl _ w1).alloc (Nat.le_refl _) _
      refine (insert_any (.slice pa qs.length pc) k w1.heap.size (ptrs qs) ⟨P,0,none⟩ _ (r1.below ba (fun b hb=>(r1.blk_lt hb).1)) (ptrs_one qs) (by rw [ptrs_len];exact hkl) (by rw [ptrs_len];omega) (heap_alloc_new w1 _) (fun e=>by have:=(r1.blk_lt e).1;omega)).mono ?_
      rintro e w' ⟨v,rfl,hr,ho,hk⟩
      obtain ⟨va,vc,rfl,-⟩:=hr.slice
      exact ⟨va,_,vc,rfl,hr,fun b hb=>(ho b hb).elim .inl (fun h=>.inr (by simp at h;omega)),(Kept.ofBelow ba _).trans hk⟩
     have hRne:=HROW2.out.ne_block HR2.out (by decide)
     go_region_with (first
      | (go_at_call 168;refine (newPane_any _ _ _).mono ?_;rintro e w1 ⟨P,M,rfl,hP,hM,hPM,hpc',hmc,hb1⟩;have hb1':Below wc.heap.size wc w1:=(((Below.refl wc.heap.size wc).drew)).trans (hb1.mono (Nat.le_refl _));have q1:w1.cell? ⟨R,1,none⟩=some (.slice pa qs.length pc):=(hb1'.cell (p:=⟨R,1,none⟩) hRs2).trans r1;have qf:∀ j,w1.frozen? ⟨R,j,none⟩=false:=fun j=>((bcell hb1').2 R j hRs2).trans (fz j);have hRs3:R < w1.heap.size:=Nat.lt_of_lt_of_le hRs2 hb1'.size)
      | (go_at_call 167;refine (hins.out w1 P hb1').mono ?_;rintro e w2 ⟨va,vn,vc,rfl,hrow,hv,hk2⟩;have s0:w2.heap[R]?=w1.heap[R]?:=hk2.block R hRs3 hRne;have s1:w2.cell? ⟨R,1,none⟩=some (.slice pa qs.length pc):=(by rw [<- q1];simp only [World.cell?,s0]);have sf:∀ j,w2.frozen? ⟨R,j,none⟩=false:=fun j=>(by rw [<- qf j];simp only [World.frozen?,s0])))
     all_goals
      go_wp2
      go_meet
      have hz:B<=wc.heap.size:=by have:=HB2.out.size;rw [HBB.out] at this;exact this
      have hP':wc.heap.size<=P:=by simpa using hP
      have hM':wc.heap.size<=M:=by simpa using hM
      have hpb:∀ b,(Value.slice pa qs.length pc).ownBlock=some b->b < wc.heap.size:=fun b hb=>(HROW2.out.blk_lt hb).1
      have hP2:=(hk2.block P (blkLt hpc') (fun e=>by have:=hpb P e;omega)).trans hpc'
      have hM2:=(hk2.block M (blkLt hmc) (fun e=>by have:=hpb M e;omega)).trans hmc
      have hR2:=s0.trans ((hb1'.block R hRs2).trans HR2.out)
      refine ⟨P,M,.slice va vn vc,by omega,by omega,hPM,blkOther hP2 R 1 _ (by omega),blkOther hM2 R 1 _ (by omega),blkPut hR2 1 _,hrow.setCell ⟨R,1,none⟩ _ (fun e=>?_),fun b hb=>?_,?_⟩
      . rcases hv R e with h | h
        . exact hRne h
        . omega
      . rcases hv b hb with h | h
        . exact .inl h
        . exact .inr (by have:=hb1'.size;omega)
      . have k0:Kept (fun b=>b=R\/(Value.slice pa qs.length pc).ownBlock=some b) w w1:=(Kept.ofBelow (by rw [HBB.out];exact HB2.out) _).trans (Kept.ofBelow hb1' _)
        exact (k0.step hk2 (fun b _ h=>.inr h)).setCell ⟨R,1,none⟩ _ (fun _=>.inl rfl)
    case rest=>
     obtain ⟨P,M,pv',h1,h2,h3,h4,h5,h6,h7,h8,h9⟩:=hcut
     have HH:Hid (B<=P/\B<=M/\P ≠ M/\wc.heap[P]?=some (.cells (paneCells f l 0 0 9223372036854775807 (-9223372036854775808) M) 207 (0,0))/\wc.heap[M]?=some (.map #[] 0) /\
      wc.heap[R]?=some (.cells (runCells key pv' inside next qv) 178 (0,0))/\Row wc 208 1 pv' ((ptrs qs).take k++.pointer (some ⟨P,0,none⟩) :: (ptrs qs).drop k)/\(∀ b,pv'.ownBlock=some b->(Value.slice pa qs.length pc).ownBlock=some b\/B<=b)/\Kept (fun b=>b=R\/(Value.slice pa qs.length pc).ownBlock=some b) w wc):=⟨h1,h2,h3,h4,h5,h6,h7,h8,h9⟩
     obtain ⟨-,r1,-,-,-,-⟩:=runAt h6
     obtain ⟨pg,po,pn,pc',hpv,hpn,-⟩:=h7.shape (by simp)
     subst hpv
     have hlen:pn=qs.length+1:=by
      simp only [List.length_append,List.length_cons,List.length_take,List.length_drop,ptrs_len,Nat.mul_one] at hpn
      omega
     subst hlen
     have p0:wc.cell? ⟨pg,po+k,none⟩=some (.pointer (some ⟨P,0,none⟩)):=by
      have:=h7.cell k (by omega)
      rw [insAt _ _ _ _ (by rw [ptrs_len];exact hkl)] at this
      simpa using this
     have hkq':(k:Int) < ((qs.length+1:Nat):Int):=by omega
     have hkq2:(k:Int) < (qs.length:Int)+1:=by omega
     have hkq3:k < qs.length+1:=by omega
     clear h1 h2 h3 h4 h5 h6 h7 h8 h9
     go_wp2
     go_ret
     obtain ⟨h1,h2,h3,h4,h5,h6,h7,h8,h9⟩:=HH.out
     rw [<- HBB.out] at h1 h2 h8
     exact ⟨k,P,false,HF.out,rfl,.inr ⟨rfl,M,_,h1,h2,h3,h4,h5,h6,h7,h8,h9⟩⟩
end Go.Proofs.YtcfngdnmpogaoaaGreat
