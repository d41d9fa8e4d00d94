import Derived.Test.YtcfngdnmpogaoaaGreatTkT07
import Derived.BigRegion
import Derived.Deep.RegionLaw
import Derived.Shelf.Abstract
import Derived.Lib.SliceRun
import Derived.Deep.CutBlock
namespace Go.Proofs.YtcfngdnmpogaoaaGreat
open Go.RowKit Go.MuLone
set_option maxHeartbeats 3200000
set_option maxRecDepth 20000
theorem add_pane (P M:Nat) (first last count sum least greatest:Int) (key:ByteArray) (t v:Int) (tag:Nat) (n:Nat) (D:DataW Unit) (w:World) (ht:tag < 4294967296)
 (hp:w.heap[P]? = some (.cells (paneCells first last count sum least greatest M) 207 (0,0))) (hm:w.ownsMap Tryz.prog 26 (unitElem (H:=Unit)) M n D) (hn:n < 1000000000) (hPM:P ≠ M) :
 Calls Tryz.prog 149 #[.pointer (some ⟨P,0,none⟩),itemV 1 key t v tag] w fun e w'=>e = .returned (.tuple #[]) /\
  w'.heap[P]? = some (.cells (paneCells first last (wrap64 (count + 1)) (wrap64 (sum + v)) (minV least v) (maxV greatest v) M) 207 (0,0)) /\ w'.ownsMap Tryz.prog 26 (unitElem (H:=Unit)) M (n + 1) (D.put (.int .u32 tag) (.agg [])) /\ Kept (fun k=>k = P \/ k = M) w w':=by
 unfold itemV
 have hPs:=blkLt hp
 have hMs:=mapLt hm
 have hp1:=blkAlloc hp (.cells #[.int .i64 1,.string key,.int .i64 t,.int .i64 v,.int .u32 (tag:Int)] 28)
 have hm1:=mapBlock hm (Below.heap_alloc w (.cells #[.int .i64 1,.string key,.int .i64 t,.int .i64 v,.int .u32 (tag:Int)] 28) M hMs)
 have hi1:=heap_alloc_new w (.cells #[.int .i64 1,.string key,.int .i64 t,.int .i64 v,.int .u32 (tag:Int)] 28)
 have K1:Hid (Kept (fun k=>k = P \/ k = M) w (w.alloc (.cells #[.int .i64 1,.string key,.int .i64 t,.int .i64 v,.int .u32 (tag:Int)] 28))):=(Kept.refl _ w).alloc _
 go_enter Tryz.func149,Tryz.ntmps149
 go_upto_region 1 with fail
 have hPB:¬ P = w.heap.size:=by omega
 have hMB:¬ M = w.heap.size:=by omega
 generalize w.heap.size = B at *
 generalize w.alloc (.cells #[.int .i64 1,.string key,.int .i64 t,.int .i64 v,.int .u32 (tag:Int)] 28) = W1 at *
 obtain ⟨-,-,c2,-,-,-,-,fz⟩:=paneAt hp1
 go_upto_region 2 with fail
 have hp2:(W1.setCell ⟨P,2,none⟩ (.int .i64 (wrap64 (count + 1)))).heap[P]? = some (.cells (paneCells first last (wrap64 (count + 1)) sum least greatest M) 207 (0,0)):=blkPut hp1 2 _
 have hm2:=mapBlock hm1 (heap_setCell_other W1 ⟨P,2,none⟩ M (.int .i64 (wrap64 (count + 1))) (fun e=>hPM e.symm))
 have hi2:=blkOther hi1 P 2 (.int .i64 (wrap64 (count + 1))) (fun e=>hPB e.symm)
 have K2:Hid (Kept (fun k=>k = P \/ k = M) w (W1.setCell ⟨P,2,none⟩ (.int .i64 (wrap64 (count + 1))))):=K1.out.setCell ⟨P,2,none⟩ _ (fun _=>.inl rfl)
 clear c2 fz hp1 hm1 hi1
 generalize W1.setCell ⟨P,2,none⟩ (.int .i64 (wrap64 (count + 1))) = W2 at *
 obtain ⟨C,HC⟩:∃ C,Hid (wrap64 (count + 1) = C):=⟨_,rfl⟩
 rw [HC.out] at hp2 ⊢
 refine wp_region_still_tail 9 (by kernel_rfl) (by kernel_rfl) ?_
 simp only [List.take_succ_cons,List.take_zero,List.drop_succ_cons,List.drop_zero]
 change wpStill Tryz.prog _ W2.drew (fun a'=>wpList Tryz.prog _ _ _ a' W2.drew) _ _
 have hp3:W2.drew.heap[P]? = some (.cells (paneCells first last C sum least greatest M) 207 (0,0)):=hp2
 have hm3:W2.drew.ownsMap Tryz.prog 26 (unitElem (H:=Unit)) M n D:=hm2
 have hi3:W2.drew.heap[B]? = some (.cells #[.int .i64 1,.string key,.int .i64 t,.int .i64 v,.int .u32 (tag:Int)] 28 (0,0)):=hi2
 have K3:=hid K2.out.drew
 clear hp2 hm2 hi2
 generalize W2.drew = W3 at *
 obtain ⟨-,-,-,c3,-,-,-,fz⟩:=paneAt hp3
 obtain ⟨-,-,-,d3,-⟩:=itemAt hi3
 have hsv:IntKind.i64.wrap (sum + v) = wrap64 (sum + v):=IntWalk.i64_left _
 repeat still_step
 refine wpStill_nil ?_
 go_wp2
 obtain ⟨S,HS⟩:∃ S,Hid (wrap64 (sum + v) = S):=⟨_,rfl⟩
 rw [HS.out]
 have hp4:(W3.setCell ⟨P,3,none⟩ (.int .i64 S)).heap[P]? = some (.cells (paneCells first last C S least greatest M) 207 (0,0)):=blkPut hp3 3 _
 have hm4:=mapBlock hm3 (heap_setCell_other W3 ⟨P,3,none⟩ M (.int .i64 S) (fun e=>hPM e.symm))
 have hi4:=blkOther hi3 P 3 (.int .i64 S) (fun e=>hPB e.symm)
 have K4:Hid (Kept (fun k=>k = P \/ k = M) w (W3.setCell ⟨P,3,none⟩ (.int .i64 S))):=K3.out.setCell ⟨P,3,none⟩ _ (fun _=>.inl rfl)
 clear c3 d3 fz hp3 hm3 hi3
 generalize W3.setCell ⟨P,3,none⟩ (.int .i64 S) = W4 at *
 go_upto_region 3 with fail
 go_cut [31] from 20 to 32 (fun _ wx=>wx.heap[P]? = some (.cells (paneCells first last C S (minV least v) (maxV greatest v) M) 207 (0,0)) /\ wx.ownsMap Tryz.prog 26 (unitElem (H:=Unit)) M n D /\ wx.heap[B]? = some (.cells #[.int .i64 1,.string key,.int .i64 t,.int .i64 v,.int .u32 (tag:Int)] 28 (0,0)) /\ Kept (fun k=>k = P \/ k = M) w wx)
 case first=>
  obtain ⟨-,-,-,-,c4,c5,-,fz⟩:=paneAt hp4
  obtain ⟨-,-,-,d3,-⟩:=itemAt hi4
  have hPs4:=blkLt hp4
  have hMs4:=mapLt hm4
  have hBs4:=blkLt hi4
  have HP:=hid hp4
  have HM:=hid hm4
  have HI:=hid hi4
  clear hp4 hm4 hi4
  go_region_with (go_at_call 151;refine (joined_any _ _ _ _ _).mono ?_;rintro e w' ⟨rfl,hb⟩;have k4:w'.cell? ⟨P,4,none⟩ = some (.int .i64 least):=(hb.cell (by simpa using hPs4)).trans (by simp [*]);have k5:w'.cell? ⟨P,5,none⟩ = some (.int .i64 greatest):=(hb.cell (by simpa using hPs4)).trans (by simp [*]);have kf:∀ j,w'.frozen? ⟨P,j,none⟩ = false:=fun j=>((bcell hb).2 P j (by simpa using hPs4)).trans (by simp [*]))
  all_goals
   go_wp2
   go_meet
   have hp5:w'.heap[P]? = some (.cells (paneCells first last C S least greatest M) 207 (0,0)):=by rw [hb.block P (by simpa using hPs4)];exact HP.out
   have hp6:((w'.setCell ⟨P,4,none⟩ (.int .i64 (minV least v))).setCell ⟨P,5,none⟩ (.int .i64 (maxV greatest v))).heap[P]? = some (.cells (paneCells first last C S (minV least v) (maxV greatest v) M) 207 (0,0)):=blkPut (blkPut hp5 4 _) 5 _
   refine ⟨hp6,?_,?_,?_⟩
   . refine mapBlock HM.out ?_
     rw [heap_setCell_other _ _ _ _ (fun e=>hPM e.symm),heap_setCell_other _ _ _ _ (fun e=>hPM e.symm),hb.block M (by simpa using hMs4)];rfl
   . rw [heap_setCell_other _ _ _ _ (fun e=>hPB e.symm),heap_setCell_other _ _ _ _ (fun e=>hPB e.symm),hb.block B (by simpa using hBs4)];exact HI.out
   . refine Kept.setCell ?_ ⟨P,_,none⟩ _ (fun _=>.inl rfl)
     refine Kept.setCell ?_ ⟨P,_,none⟩ _ (fun _=>.inl rfl)
     exact K4.out.trans (Kept.step (Kept.drew (Kept.refl _ W4)) (Kept.ofBelow hb (fun _=>False)) (fun _ _ h=>h.elim))
 case rest=>
  obtain ⟨hp5,hm5,hi5,k5⟩:=hcut
  have K5:=hid k5
  clear k5 hp4 hm4 hi4
  obtain ⟨L,HL⟩:∃ L,Hid (minV least v = L):=⟨_,rfl⟩
  obtain ⟨G,HG⟩:∃ G,Hid (maxV greatest v = G):=⟨_,rfl⟩
  rw [HL.out,HG.out] at hp5
  go_upto_region 4 with fail
  refine wp_region_still_tail 7 (by kernel_rfl) (by kernel_rfl) ?_
  simp only [List.take_succ_cons,List.take_zero,List.drop_succ_cons,List.drop_zero]
  change wpStill Tryz.prog _ wc.drew (fun a'=>wpList Tryz.prog _ _ _ a' wc.drew) _ _
  have hp6:wc.drew.heap[P]? = some (.cells (paneCells first last C S L G M) 207 (0,0)):=hp5
  have hm6:wc.drew.ownsMap Tryz.prog 26 (unitElem (H:=Unit)) M n D:=hm5
  have hi6:wc.drew.heap[B]? = some (.cells #[.int .i64 1,.string key,.int .i64 t,.int .i64 v,.int .u32 (tag:Int)] 28 (0,0)):=hi5
  have K6:=hid K5.out.drew
  clear hp5 hm5 hi5
  generalize wc.drew = W6 at *
  obtain ⟨-,-,-,-,-,-,c6,fz⟩:=paneAt hp6
  obtain ⟨-,-,-,-,d4⟩:=itemAt hi6
  repeat still_step
  refine wpStill_nil ?_
  have hkey:keyOf Tryz.prog 26 (.int .u32 (tag:Int)) = some (.int .u32 (tag:Int)):=Maps.keyOf_int_mk Tryz.underlying26 (WalkArith.wf_u32 (by omega))
  go_wp2_with (at_mapUpdate;refine wpList_mapUpdate_own _ rfl _ _ _ 205 rfl 26 97 keyedU Tryz.underlying205 _ M n D rfl hm6 (by unfold maxLen;omega) _ _ _ rfl rfl hkey (.agg []) [] unitElem_mk ?_;intro w7 hown hgrow)
  go_end0
  rw [HC.out,HS.out,HL.out,HG.out]
  have hPs6:=blkLt hp6
  refine ⟨rfl,?_,hown,?_⟩
  . rw [hgrow.block P hPs6 (by simpa using hPM)];exact hp6
  . exact K6.out.step (Kept.ofGrown hgrow) (fun i _ h=>.inr (by simpa using h.symm))
end Go.Proofs.YtcfngdnmpogaoaaGreat
namespace Go.Proofs.YtcfngdnmpogaoaaGreat
open Go.RowKit Go.MuLone
structure Ev where
 key:ByteArray
 t:Int
 v:Int
 tag:Nat
def Ev.fits (e:Ev):Prop:=-9223372036854775808 <= e.v /\ e.v <= 9223372036854775807 /\ e.tag < 4294967296
def cntV (es:List Ev):Int:=wrap64 (es.length:Int)
def sumV (es:List Ev):Int:=wrap64 (es.map Ev.v).sum
def loV (es:List Ev):Int:=es.foldl (fun a e=>minV a e.v) 9223372036854775807
def hiV (es:List Ev):Int:=es.foldl (fun a e=>maxV a e.v) (-9223372036854775808)
theorem wrap64_add (a b:Int):wrap64 (wrap64 a + b) = wrap64 (a + b):=by unfold wrap64;omega
theorem cntV_nil:cntV [] = 0:=by unfold cntV wrap64;simp
theorem sumV_nil:sumV [] = 0:=by unfold sumV wrap64;simp
theorem cntV_snoc (es:List Ev) (e:Ev):wrap64 (cntV es + 1) = cntV (es ++ [e]):=by
 unfold cntV;rw [wrap64_add,List.length_append];simp
theorem sumV_snoc (es:List Ev) (e:Ev):wrap64 (sumV es + e.v) = sumV (es ++ [e]):=by
 unfold sumV;rw [wrap64_add,List.map_append,List.sum_append];simp
theorem loV_snoc (es:List Ev) (e:Ev):loV (es ++ [e]) = minV (loV es) e.v:=by unfold loV;rw [List.foldl_append];rfl
theorem hiV_snoc (es:List Ev) (e:Ev):hiV (es ++ [e]) = maxV (hiV es) e.v:=by unfold hiV;rw [List.foldl_append];rfl
theorem minV_le (a b:Int):minV a b <= a /\ minV a b <= b /\ (minV a b = a \/ minV a b = b):=by unfold minV;split <;> omega
theorem maxV_le (a b:Int):a <= maxV a b /\ b <= maxV a b /\ (maxV a b = a \/ maxV a b = b):=by unfold maxV;split <;> omega
theorem loFold (es:List Ev) (a:Int):es.foldl (fun a e=>minV a e.v) a <= a /\ (∀ e ∈ es,es.foldl (fun a e=>minV a e.v) a <= e.v) /\ (es.foldl (fun a e=>minV a e.v) a = a \/ ∃ e ∈ es,es.foldl (fun a e=>minV a e.v) a = e.v):=by
 induction es generalizing a with
 | nil=>simp
 | cons x es ih=>
   obtain ⟨h1,h2,h3⟩:=ih (minV a x.v)
   obtain ⟨m1,m2,m3⟩:=minV_le a x.v
   simp only [List.foldl_cons]
   refine ⟨by omega,?_,?_⟩
   . intro e he
     rcases List.mem_cons.1 he with rfl | he
     . omega
     . exact h2 e he
   . rcases h3 with h3 | ⟨e,he,h3⟩
     . rcases m3 with m3 | m3
       . left;omega
       . right;exact ⟨x,by simp,by omega⟩
     . right;exact ⟨e,by simp [he],h3⟩
theorem hiFold (es:List Ev) (a:Int):a <= es.foldl (fun a e=>maxV a e.v) a /\ (∀ e ∈ es,e.v <= es.foldl (fun a e=>maxV a e.v) a) /\ (es.foldl (fun a e=>maxV a e.v) a = a \/ ∃ e ∈ es,es.foldl (fun a e=>maxV a e.v) a = e.v):=by
 induction es generalizing a with
 | nil=>simp
 | cons x es ih=>
   obtain ⟨h1,h2,h3⟩:=ih (maxV a x.v)
   obtain ⟨m1,m2,m3⟩:=maxV_le a x.v
   simp only [List.foldl_cons]
   refine ⟨by omega,?_,?_⟩
   . intro e he
     rcases List.mem_cons.1 he with rfl | he
     . omega
     . exact h2 e he
   . rcases h3 with h3 | ⟨e,he,h3⟩
     . rcases m3 with m3 | m3
       . left;omega
       . right;exact ⟨x,by simp,by omega⟩
     . right;exact ⟨e,by simp [he],h3⟩
def Fits (es:List Ev):Prop:=∀ e ∈ es,e.fits
theorem loV_spec (es:List Ev) (hf:Fits es) (h0:es ≠ []):(∀ e ∈ es,loV es <= e.v) /\ ∃ e ∈ es,loV es = e.v:=by
 obtain ⟨h1,h2,h3⟩:=loFold es 9223372036854775807
 refine ⟨h2,?_⟩
 rcases h3 with h3 | h3
 . match es,h0 with
   | x :: r,_=>
     have:=h2 x (by simp)
     have hx:=(hf x (by simp)).2.1
     exact ⟨x,by simp,by show List.foldl _ _ _ = _;omega⟩
 . exact h3
theorem hiV_spec (es:List Ev) (hf:Fits es) (h0:es ≠ []):(∀ e ∈ es,e.v <= hiV es) /\ ∃ e ∈ es,hiV es = e.v:=by
 obtain ⟨h1,h2,h3⟩:=hiFold es (-9223372036854775808)
 refine ⟨h2,?_⟩
 rcases h3 with h3 | h3
 . match es,h0 with
   | x :: r,_=>
     have:=h2 x (by simp)
     have hx:=(hf x (by simp)).1
     exact ⟨x,by simp,by show List.foldl _ _ _ = _;omega⟩
 . exact h3
theorem loV_range (es:List Ev) (hf:Fits es):-9223372036854775808 <= loV es /\ loV es <= 9223372036854775807:=by
 by_cases h0:es = []
 . subst h0;decide
 . obtain ⟨-,e,he,h⟩:=loV_spec es hf h0
   have:=hf e he
   unfold Ev.fits at this;omega
theorem hiV_range (es:List Ev) (hf:Fits es):-9223372036854775808 <= hiV es /\ hiV es <= 9223372036854775807:=by
 by_cases h0:es = []
 . subst h0;decide
 . obtain ⟨-,e,he,h⟩:=hiV_spec es hf h0
   have:=hf e he
   unfold Ev.fits at this;omega
theorem minV_fold (b:List Ev):∀ a:Int,a <= 9223372036854775807 -> b.foldl (fun a e=>minV a e.v) a = minV a (loV b):=by
 intro a ha
 obtain ⟨p1,p2,p3⟩:=loFold b a
 obtain ⟨q1,q2,q3⟩:=loFold b 9223372036854775807
 have e:loV b = b.foldl (fun a e=>minV a e.v) 9223372036854775807:=rfl
 rw [<- e] at q1 q2 q3
 generalize b.foldl (fun a e=>minV a e.v) a = F at *
 generalize loV b = L at *
 obtain ⟨m1,m2,m3⟩:=minV_le a L
 generalize minV a L = M at *
 have h1:M <= F:=by
  rcases p3 with p3 | ⟨x,hx,p3⟩
  . omega
  . have:=q2 x hx;omega
 have h2:F <= M:=by
  rcases m3 with m3 | m3
  . omega
  . rcases q3 with q3 | ⟨y,hy,q3⟩
    . omega
    . have:=p2 y hy;omega
 omega
theorem maxV_fold (b:List Ev):∀ a:Int,-9223372036854775808 <= a -> b.foldl (fun a e=>maxV a e.v) a = maxV a (hiV b):=by
 intro a ha
 obtain ⟨p1,p2,p3⟩:=hiFold b a
 obtain ⟨q1,q2,q3⟩:=hiFold b (-9223372036854775808)
 have e:hiV b = b.foldl (fun a e=>maxV a e.v) (-9223372036854775808):=rfl
 rw [<- e] at q1 q2 q3
 generalize b.foldl (fun a e=>maxV a e.v) a = F at *
 generalize hiV b = L at *
 obtain ⟨m1,m2,m3⟩:=maxV_le a L
 generalize maxV a L = M at *
 have h1:F <= M:=by
  rcases p3 with p3 | ⟨x,hx,p3⟩
  . omega
  . have:=q2 x hx;omega
 have h2:M <= F:=by
  rcases m3 with m3 | m3
  . omega
  . rcases q3 with q3 | ⟨y,hy,q3⟩
    . omega
    . have:=p2 y hy;omega
 omega
theorem loV_append (a b:List Ev) (hf:Fits a):loV (a ++ b) = minV (loV a) (loV b):=by
 show List.foldl _ _ _ = _
 rw [List.foldl_append]
 exact minV_fold b _ (loV_range a hf).2
theorem hiV_append (a b:List Ev) (hf:Fits a):hiV (a ++ b) = maxV (hiV a) (hiV b):=by
 show List.foldl _ _ _ = _
 rw [List.foldl_append]
 exact maxV_fold b _ (hiV_range a hf).1
theorem sum_perm {a b:List Int} (h:a.Perm b):a.sum = b.sum:=by
 induction h with
 | nil=>rfl
 | cons x _ ih=>simp [ih]
 | swap x y l=>simp;omega
 | trans _ _ h1 h2=>exact h1.trans h2
theorem sumV_perm {a b:List Ev} (h:a.Perm b):sumV a = sumV b:=by unfold sumV;rw [sum_perm (h.map _)]
theorem Fits.perm {a b:List Ev} (h:a.Perm b) (hf:Fits a):Fits b:=fun e he=>hf e (h.mem_iff.2 he)
theorem loV_perm {a b:List Ev} (h:a.Perm b) (hf:Fits a):loV a = loV b:=by
 by_cases h0:a = []
 . subst h0;rw [h.nil_eq]
 . have hb:b ≠ []:=fun e=>h0 (by subst e;exact h.eq_nil)
   obtain ⟨p1,x,hx,p2⟩:=loV_spec a hf h0
   obtain ⟨q1,y,hy,q2⟩:=loV_spec b (hf.perm h) hb
   have:=p1 y (h.mem_iff.2 hy)
   have:=q1 x (h.mem_iff.1 hx)
   omega
theorem hiV_perm {a b:List Ev} (h:a.Perm b) (hf:Fits a):hiV a = hiV b:=by
 by_cases h0:a = []
 . subst h0;rw [h.nil_eq]
 . have hb:b ≠ []:=fun e=>h0 (by subst e;exact h.eq_nil)
   obtain ⟨p1,x,hx,p2⟩:=hiV_spec a hf h0
   obtain ⟨q1,y,hy,q2⟩:=hiV_spec b (hf.perm h) hb
   have:=p1 y (h.mem_iff.2 hy)
   have:=q1 x (h.mem_iff.1 hx)
   omega
structure Pane where
 first:Int
 last:Int
 evs:List Ev
def Pane.lt (p q:Pane):Prop:=p.first < q.first \/ p.first = q.first /\ p.last < q.last
def Pane.span (p:Pane):Int × Int:=(loV p.evs,hiV p.evs)
def joinS (r x:Int × Int):Int × Int:=(minV r.1 x.1,maxV r.2 x.2)
def noneS:Int × Int:=(9223372036854775807,-9223372036854775808)
def runS (xs:List (Int × Int)):Int × Int:=xs.foldl joinS noneS
def levelV (x r:Int × Int):List Value:=[.int .i64 x.1,.int .i64 x.2,.int .i64 r.1,.int .i64 r.2]
def levelsFrom (r:Int × Int):List (Int × Int) -> List Value
 | []=>[]
 | x :: xs=>levelV x (joinS r x) ++ levelsFrom (joinS r x) xs
def levels (xs:List (Int × Int)):List Value:=levelsFrom noneS xs
theorem levelsFrom_length (r:Int × Int) (xs:List (Int × Int)):(levelsFrom r xs).length = xs.length * 4:=by
 induction xs generalizing r with
 | nil=>rfl
 | cons x xs ih=>simp only [levelsFrom,List.length_append,ih,levelV,List.length_cons,List.length_nil];omega
theorem levels_length (xs:List (Int × Int)):(levels xs).length = xs.length * 4:=levelsFrom_length _ _
theorem runS_snoc (xs:List (Int × Int)) (x:Int × Int):runS (xs ++ [x]) = joinS (runS xs) x:=by unfold runS;rw [List.foldl_append];rfl
theorem levelsFrom_snoc (r:Int × Int) (xs:List (Int × Int)) (x:Int × Int):levelsFrom r (xs ++ [x]) = levelsFrom r xs ++ levelV x (joinS (xs.foldl joinS r) x):=by
 induction xs generalizing r with
 | nil=>simp [levelsFrom]
 | cons y xs ih=>simp only [List.cons_append,levelsFrom,ih,List.foldl_cons,List.append_assoc]
theorem levels_snoc (xs:List (Int × Int)) (x:Int × Int):levels (xs ++ [x]) = levels xs ++ levelV x (runS (xs ++ [x])):=by
 rw [runS_snoc];exact levelsFrom_snoc _ _ _
end Go.Proofs.YtcfngdnmpogaoaaGreat
namespace Go.Proofs.YtcfngdnmpogaoaaGreat
open Go.RowKit Go.MuLone
set_option maxHeartbeats 1600000
set_option maxRecDepth 20000
theorem isFinished_any (g:Nat) (r:SCells) (s:Int) (w:World) (h:SF w g r) (hw:IntKind.i64.wrap (s + r.size) = s + r.size) :
 Calls Tryz.prog 101 #[.pointer (some ⟨g,0,none⟩),.int .i64 s] w fun e w'=>e = .returned (.bool (decide (s + r.size <= r.lt))) /\ ∃ m,w' = w.drewN m:=by
 have c2:=h.headAt 2 rfl
 have c46:=h.tailAt 0 rfl
 clear h
 generalize r.size = sz at *
 generalize r.lt = lt at *
 go_enter Tryz.func101,Tryz.ntmps101
 go_wp2
 go_quiet (fail)
 go_wp2
 go_ret
 exact ⟨rfl,nq,rfl⟩
structure PartsNew (w:World) (b:Nat):Prop where
 tot:w.heap[b]? = some (.cells #[.int .i64 0,.int .i64 0] 214 (0,0))
 bnd:w.heap[b + 1]? = some (.cells #[.slice none 0 0,.slice none 0 0] 240 (0,0))
 tag:w.heap[b + 2]? = some (.map #[] 0)
 all:w.heap[b + 3]? = some (.cells #[.iface 212 (.pointer (some ⟨b,0,none⟩)),.iface 215 (.pointer (some ⟨b + 1,0,none⟩)),.iface 218 (.map (some (b + 2)))] 210 (0,0))
theorem PartsNew.congr {w w':World} {b:Nat} (h:PartsNew w b) (hb:∀ k,b <= k -> k <= b + 3 -> w'.heap[k]? = w.heap[k]?):PartsNew w' b:=
 ⟨by rw [hb b (by omega) (by omega)];exact h.tot,by rw [hb _ (by omega) (by omega)];exact h.bnd,by rw [hb _ (by omega) (by omega)];exact h.tag,by rw [hb _ (by omega) (by omega)];exact h.all⟩
theorem four_new (w:World) (a b c d:Obj):((((w.alloc a).alloc b).alloc c).alloc d).heap[w.heap.size]? = some a /\ ((((w.alloc a).alloc b).alloc c).alloc d).heap[w.heap.size + 1]? = some b /\ ((((w.alloc a).alloc b).alloc c).alloc d).heap[w.heap.size + 2]? = some c /\ ((((w.alloc a).alloc b).alloc c).alloc d).heap[w.heap.size + 3]? = some d:=by
 have h1:=two_new w a b
 have h2:=two_new ((w.alloc a).alloc b) c d
 have e:((w.alloc a).alloc b).heap.size = w.heap.size + 2:=by simp
 rw [e] at h2
 exact ⟨blkAlloc (blkAlloc h1.1 _) _,blkAlloc (blkAlloc h1.2 _) _,h2.1,h2.2⟩
theorem newParts_any (w:World) :
 Calls Tryz.prog 163 #[] w fun e w'=>e = .returned (.slice (some ⟨w.heap.size + 3,0,none⟩) 3 3) /\ PartsNew w' w.heap.size /\ Below w.heap.size w w':=by
 have hmm:=@run_makeMap Tryz.prog
 go_enter Tryz.func163,Tryz.ntmps163
 go_wp2
 go_ret
 have hf:=four_new w (.cells #[.int .i64 0,.int .i64 0] 214) (.cells #[.slice none 0 0,.slice none 0 0] 240) (.map #[] 0) (.cells #[.iface 212 (.pointer (some ⟨w.heap.size,0,none⟩)),.iface 215 (.pointer (some ⟨w.heap.size + 1,0,none⟩)),.iface 218 (.map (some (w.heap.size + 1 + 1)))] 210)
 exact ⟨rfl,⟨hf.1,hf.2.1,hf.2.2.1,hf.2.2.2⟩,((((Below.refl _ w).alloc (Nat.le_refl _) _).alloc (by simp) _).alloc (by simp;omega) _).alloc (by simp;omega) _⟩
end Go.Proofs.YtcfngdnmpogaoaaGreat
namespace Go.Proofs.YtcfngdnmpogaoaaGreat
open Go.RowKit Go.MuLone
theorem infoPP:(Tryz.prog.info? 208).map (fun i=>(i.zero,i.size,i.bytes)) = some (some (.pointer none),1,8):=by kernel_rfl
def runCells (key:ByteArray) (pv:Value) (inside:Int) (next:Int) (qv:Value):Array Value:=#[.string key,pv,.int .i64 inside,.int .i64 next,qv]
theorem runAt {w:World} {R:Nat} {key:ByteArray} {pv qv:Value} {inside next:Int} (h:w.heap[R]? = some (.cells (runCells key pv inside next qv) 178 (0,0))) :
 w.cell? ⟨R,0,none⟩ = some (.string key) /\ w.cell? ⟨R,1,none⟩ = some pv /\ w.cell? ⟨R,2,none⟩ = some (.int .i64 inside) /\ w.cell? ⟨R,3,none⟩ = some (.int .i64 next) /\ w.cell? ⟨R,4,none⟩ = some qv /\ (∀ j,w.frozen? ⟨R,j,none⟩ = false):=
 ⟨blkCell h rfl,blkCell h rfl,blkCell h rfl,blkCell h rfl,blkCell h rfl,blkFrozen h⟩
end Go.Proofs.YtcfngdnmpogaoaaGreat
namespace Go.Proofs.YtcfngdnmpogaoaaGreat
open Go.RowKit Go.MuLone
variable {K:Act -> World -> Prop} {P:Program} {Q:Exit -> Act -> World -> Prop} {a:Act} {o:Oper} {ops:Array Oper} {w:World}
theorem step_enter {E:Prop} (hg:o.guard = none) (f:FuncId) (args:Array Value)
 (hrun:(execOp a.eval o).run P w = .ok (.enter f args) w) (R:Ending -> World -> Prop) (hc:Calls P f args w R) (h:∀ e w',R e w' -> ∃ v,e = .returned v /\ K (a.put o.dst v) w') :
 if Region.wanted o (yielded ops a.tmps) = true then Oper.wp P o a w K Q else E:=by
 have hw:Region.wanted o (yielded ops a.tmps) = true:=by simp [Region.wanted,hg]
 rw [if_pos hw]
 unfold Oper.wp
 rw [hrun,Oper.upon_enter]
 refine hc.mono fun e w' hr=>?_
 obtain ⟨v,rfl,hk⟩:=h e w' hr
 exact hk
theorem step_call0 {E:Prop} (hg:o.guard = none) (f:FuncId) (ts:Array TypeId)
 (hop:o.op = .call { callee:=.value (.func f),args:=#[],argTypes:=ts }) (he:∀ (vs:Array Value) (w:World),(callFunc f vs).run P w = .ok (.enter f vs) w) (R:Ending -> World -> Prop) (hc:Calls P f #[] w R) (h:∀ e w',R e w' -> ∃ v,e = .returned v /\ K (a.put o.dst v) w') :
 if Region.wanted o (yielded ops a.tmps) = true then Oper.wp P o a w K Q else E:=
 step_enter hg f #[] (by simp [execOp,hop,resolve,invoke,Deferred.ofValue,Act.eval,he]) R hc h
theorem step_call1 {E:Prop} (hg:o.guard = none) (f:FuncId) (x:Operand) (ts:Array TypeId)
 (hop:o.op = .call { callee:=.value (.func f),args:=#[x],argTypes:=ts }) (he:∀ (vs:Array Value) (w:World),(callFunc f vs).run P w = .ok (.enter f vs) w) (v:Value) (hv:a.eval x = v) (R:Ending -> World -> Prop) (hc:Calls P f #[v] w R) (h:∀ e w',R e w' -> ∃ v,e = .returned v /\ K (a.put o.dst v) w') :
 if Region.wanted o (yielded ops a.tmps) = true then Oper.wp P o a w K Q else E:=
 step_enter hg f #[v] (by subst hv;simp [execOp,hop,resolve,invoke,Deferred.ofValue,he,Act.eval]) R hc h
theorem enterParts:∀ (vs:Array Value) (w:World),(callFunc 163 vs).run Tryz.prog w = .ok (.enter 163 vs) w:=enters_of Tryz.func163 (by kernel_rfl) rfl
theorem infoPR:(Tryz.prog.info? 150).map (fun i=>(i.zero,i.size,i.bytes)) = some (some (.pointer none),1,8):=by kernel_rfl
def SCells.setGoing (r:SCells) (v:Value):SCells:={ r with going:=v }
theorem SF.putGoing {g:Nat} {r:SCells} (h:SF w g r) (v:Value):SF (w.setCell ⟨g,48,none⟩ v) g (r.setGoing v):=h.putTail 2 v rfl rfl rfl
end Go.Proofs.YtcfngdnmpogaoaaGreat
namespace Go.Proofs.YtcfngdnmpogaoaaGreat
open Go.RowKit Go.MuLone
theorem step_call2 {P:Program} {ops:Array Oper} {o:Oper} {a:Act} {w:World} {K:Act -> World -> Prop} {Q:Exit -> Act -> World -> Prop} {E:Prop} (hg:o.guard = none) (f:FuncId) (x y:Operand) (ts:Array TypeId)
 (hop:o.op = .call { callee:=.value (.func f),args:=#[x,y],argTypes:=ts }) (he:∀ (vs:Array Value) (w:World),(callFunc f vs).run P w = .ok (.enter f vs) w) (v u:Value) (hv:a.eval x = v) (hu:a.eval y = u) (R:Ending -> World -> Prop) (hc:Calls P f #[v,u] w R) (h:∀ e w',R e w' -> ∃ v,e = .returned v /\ K (a.put o.dst v) w') :
 if Region.wanted o (yielded ops a.tmps) = true then Oper.wp P o a w K Q else E:=
 step_enter hg f #[v,u] (by subst hv hu;simp [execOp,hop,resolve,invoke,Deferred.ofValue,he,Act.eval]) R hc h
structure One (w:World) (R P M b:Nat) (pv:Value) (key:ByteArray) (first last count sum least greatest:Int) (n:Nat) (D:DataW Unit):Prop where
 run:w.heap[R]? = some (.cells (runCells key pv 0 0 (.slice (some ⟨b + 3,0,none⟩) 3 3)) 178 (0,0))
 panes:Row w 208 1 pv [.pointer (some ⟨P,0,none⟩)]
 pane:w.heap[P]? = some (.cells (paneCells first last count sum least greatest M) 207 (0,0))
 tags:w.ownsMap Tryz.prog 26 (unitElem (H:=Unit)) M n D
 parts:PartsNew w b
 ne:M ≠ b + 2
theorem mapMade {H:Type} {w:World} {P:Program} {k:TypeId} {R:Value -> Option (DataW H × List MemPlace)} {b:Nat} (h:w.heap[b]? = some (.map #[] 0)):w.ownsMap P k R b 0 (.map []):=
 ⟨#[],0,h,⟨by simp,MapKept.stamped_empty 0,by simp⟩,Nat.le_refl _,rfl⟩
def NewAt (B R b:Nat) (pv gv:Value):Prop:=B <= R /\ B <= b /\ (∀ k,pv.ownBlock = some k -> B <= k) /\ ∀ k,gv.ownBlock = some k -> B <= k
end Go.Proofs.YtcfngdnmpogaoaaGreat
namespace Go.Proofs.YtcfngdnmpogaoaaGreat
open Go.RowKit Go.MuLone
def SCells.addTaken (r:SCells):SCells:={ r with n:={ r.n with taken:=wrap64 (r.n.taken + 1) } }
structure OneF (w:World) (g:Nat) (r:SCells) (gv:Value) (R P M b:Nat) (pv:Value) (key:ByteArray) (first last count sum least greatest:Int) (n:Nat) (D:DataW Unit):Prop where
 sf:SF w g r
 row:Row w 150 1 gv [.pointer (some ⟨R,0,none⟩)]
 one:One w R P M b pv key first last count sum least greatest n D
end Go.Proofs.YtcfngdnmpogaoaaGreat
namespace Go.Proofs.YtcfngdnmpogaoaaGreat
open Go.RowKit Go.MuLone
def SCells.past (r:SCells) (last:Int):Bool:=decide (last + r.size <= r.lt)
end Go.Proofs.YtcfngdnmpogaoaaGreat
namespace Go.Proofs.YtcfngdnmpogaoaaGreat
open Go.RowKit Go.MuLone
theorem enterDel:∀ (vs:Array Value) (w:World),(callFunc 143 vs).run Tryz.prog w = .ok (.enter 143 vs) w:=enters_of Tryz.func143 (by kernel_rfl) rfl
def SCells.setEnded (r:SCells) (v:Value):SCells:={ r with ended:=v }
theorem SF.putEnded {w:World} {g:Nat} {r:SCells} (h:SF w g r) (v:Value):SF (w.setCell ⟨g,49,none⟩ v) g (r.setEnded v):=h.putTail 3 v rfl rfl rfl
end Go.Proofs.YtcfngdnmpogaoaaGreat
namespace Go.Proofs.YtcfngdnmpogaoaaGreat
open Go.RowKit Go.MuLone
set_option maxHeartbeats 1600000
set_option maxRecDepth 20000
theorem do_mark_of (g n:Nat) (r:SCells) (s:SSrc) (key:ByteArray) (t v:Int) (tag:Int) (w:World) (h:SF w g r) (hs:r.src[n]? = some s) (Q:World -> Prop)
 (hm:∀ W,SF W g (r.addMark.setSrc n (s.raised (clampT t))) -> Kept (fun k=>k = g) w W -> Calls Tryz.prog 77 #[.pointer (some ⟨g,0,none⟩)] W fun e w'=>e = .returned (.tuple #[]) /\ Q w') :
 Calls Tryz.prog 72 #[.pointer (some ⟨g,0,none⟩),.pointer (some ⟨g,6 + n * 5,none⟩),itemV 2 key t v tag] w fun e w'=>e = .returned (.tuple #[]) /\ Q w':=by
 have hglt:=h.lt
 have H:Hid (SF w g r):=h
 have fz:∀ j,w.frozen? ⟨g,j,none⟩ = false:=h.frozen
 clear h
 unfold itemV
 have hn:n < r.src.length:=(List.getElem?_eq_some_iff.1 hs).1
 have HR:Hid (∀ W,SF W g (r.addMark.setSrc n (s.raised (clampT t))) -> Kept (fun k=>k = g) w W -> Calls Tryz.prog 77 #[.pointer (some ⟨g,0,none⟩)] W fun e w'=>e = .returned (.tuple #[]) /\ Q w'):=hm
 clear hm
 have hBg:¬ w.heap.size = g:=by omega
 have hgB:¬ g = w.heap.size:=by omega
 go_enter Tryz.func72,Tryz.ntmps72
 go_wp2_with fail
 have d2:(w.alloc (.cells #[.int .i64 2,.string key,.int .i64 t,.int .i64 v,.int .u32 tag] 28)).cell? ⟨w.heap.size,2,none⟩ = some (.int .i64 t):=by simp
 have H1:Hid (SF (w.alloc (.cells #[.int .i64 2,.string key,.int .i64 t,.int .i64 v,.int .u32 tag] 28)) g r):=H.out.congr (Below.heap_alloc _ _ _ hglt)
 have K1:Hid (Kept (fun k=>k = g) w (w.alloc (.cells #[.int .i64 2,.string key,.int .i64 t,.int .i64 v,.int .u32 tag] 28))):=(Kept.refl _ w).alloc _
 generalize w.alloc (.cells #[.int .i64 2,.string key,.int .i64 t,.int .i64 v,.int .u32 tag] 28) = W1 at *
 generalize hB:w.heap.size = B at *
 clear hB
 refine (add_any g 54 r.n.marks 1 W1 (H1.out.tailAt 8 rfl) (H1.out.frozen _)).mono ?_
 rintro e W2 ⟨rfl,rfl⟩
 have H2:Hid (SF (W1.setCell ⟨g,54,none⟩ (.int .i64 (wrap64 (r.n.marks + 1)))) g r.addMark):=H1.out.putTail 8 _ rfl rfl rfl
 have K2:Hid (Kept (fun k=>k = g) w (W1.setCell ⟨g,54,none⟩ (.int .i64 (wrap64 (r.n.marks + 1))))):=K1.out.setCell ⟨g,54,none⟩ _ (fun _=>rfl)
 have e2:(W1.setCell ⟨g,54,none⟩ (.int .i64 (wrap64 (r.n.marks + 1)))).cell? ⟨B,2,none⟩ = some (.int .i64 t):=by rw [World.cell?_setCell_far _ _ _ _ (by simpa using hgB)];exact d2
 generalize W1.setCell ⟨g,54,none⟩ (.int .i64 (wrap64 (r.n.marks + 1))) = W2 at *
 clear d2 fz
 go_wp2_with fail
 refine wp_region_still_tail 7 (by kernel_rfl) (by kernel_rfl) ?_
 simp only [List.take_succ_cons,List.take_zero,List.drop_succ_cons,List.drop_zero]
 change wpStill Tryz.prog _ W2.drew (fun a'=>wpList Tryz.prog _ _ _ a' W2.drew) _ _
 have e2:W2.drew.cell? ⟨B,2,none⟩ = some (.int .i64 t):=e2
 have H3:Hid (SF W2.drew g r.addMark):=H2.out.congr rfl
 have K3:Hid (Kept (fun k=>k = g) w W2.drew):=K2.out.drew
 generalize W2.drew = W3 at *
 repeat still_step
 refine wpStill_nil ?_
 have hcl:(if 2305843009213693952 < if t < -2305843009213693952 then -2305843009213693952 else t then 2305843009213693952 else if t < -2305843009213693952 then -2305843009213693952 else t) = clampT t:=rfl
 rw [hcl]
 clear hcl
 generalize (if t < -2305843009213693952 then -2305843009213693952 else t) = T0
 obtain ⟨T,HT⟩:∃ T,Hid (clampT t = T):=⟨_,rfl⟩
 rw [HT.out]
 rw [HT.out] at HR
 have c3:W3.cell? ⟨g,6 + n * 5 + 3,none⟩ = some (.int .i64 s.time):=H3.out.cell (r.addMark.srcAt n 3 s hs (by omega))
 have c4:W3.cell? ⟨g,6 + n * 5 + 3 + 1,none⟩ = some (.bool s.is):=H3.out.cell (r.addMark.srcAt n 4 s hs (by omega))
 by_cases hup:s.is = false \/ s.time < T
 . have HQ:Hid (Calls Tryz.prog 98 #[.pointer (some ⟨g,6 + n * 5 + 3,none⟩),.int .i64 T] W3 fun e w'=>e = .returned (.tuple #[]) /\ w' = (W3.setCell ⟨g,6 + n * 5 + 3,none⟩ (.int .i64 T)).setCell ⟨g,6 + n * 5 + 3 + 1,none⟩ (.bool true)):=raise_yes g _ s.time T s.is W3 c3 c4 H3.out.frozen hup
   have HS:Hid (s.raised T = ⟨s.opened,s.broken,s.unread,T,true⟩):=by show _ = _;rw [SSrc.raised,if_pos hup]
   clear c3 c4 e2
   go_wp2_with fail
   refine HQ.out.mono ?_
   rintro e W4 ⟨rfl,rfl⟩
   have H4:Hid (SF ((W3.setCell ⟨g,6 + n * 5 + 3,none⟩ (.int .i64 T)).setCell ⟨g,6 + n * 5 + 3 + 1,none⟩ (.bool true)) g (r.addMark.setSrc n (s.raised T))):=by show SF _ _ _;rw [HS.out];exact H3.out.putMoment n s T true hs
   have K4:Hid (Kept (fun k=>k = g) w ((W3.setCell ⟨g,6 + n * 5 + 3,none⟩ (.int .i64 T)).setCell ⟨g,6 + n * 5 + 3 + 1,none⟩ (.bool true))):=(K3.out.setCell ⟨g,_,none⟩ _ (fun _=>rfl)).setCell ⟨g,_,none⟩ _ (fun _=>rfl)
   generalize (W3.setCell ⟨g,6 + n * 5 + 3,none⟩ (.int .i64 T)).setCell ⟨g,6 + n * 5 + 3 + 1,none⟩ (.bool true) = W5 at *
   go_wp2_with fail
   refine (HR.out W5 H4.out K4.out).mono ?_
   rintro e W6 ⟨rfl,h6⟩
   have H6:Hid (Q W6):=h6
   clear h6
   go_wp2
   go_end0
   exact ⟨rfl,H6.out⟩
 . have hsi:s.is = true:=by cases h:s.is <;> simp [h] at hup ⊢
   have HQ:Hid (Calls Tryz.prog 98 #[.pointer (some ⟨g,6 + n * 5 + 3,none⟩),.int .i64 T] W3 fun e w'=>e = .returned (.tuple #[]) /\ w' = W3):=raise_no g _ s.time T W3 c3 (by rw [c4,hsi]) (fun h=>hup (.inr h))
   have HS:Hid (r.addMark.setSrc n (s.raised T) = r.addMark):=by
    show _ = _
    rw [SSrc.raised,if_neg hup,SCells.setSrc]
    have:r.addMark.src.set n s = r.addMark.src:=List.ext_getElem? (fun i=>by
     rw [List.getElem?_set]
     split
     . rename_i h;subst h
       rw [if_pos (show n < r.addMark.src.length from hn)];exact hs.symm
     . rfl)
    rw [this]
   have H4:Hid (SF W3 g (r.addMark.setSrc n (s.raised T))):=by show SF _ _ _;rw [HS.out];exact H3.out
   clear c3 c4 e2
   go_wp2_with fail
   refine HQ.out.mono ?_
   rintro e W4 ⟨rfl,rfl⟩
   go_wp2_with fail
   refine (HR.out _ H4.out K3.out).mono ?_
   rintro e W6 ⟨rfl,h6⟩
   have H6:Hid (Q W6):=h6
   clear h6
   go_wp2
   go_end0
   exact ⟨rfl,H6.out⟩
theorem do_event_of (g:Nat) (sp:Value) (key:ByteArray) (t v:Int) (tag:Nat) (w:World) (P Q:World -> Prop)
 (hd:∀ W,Below w.heap.size w W -> Calls Tryz.prog 99 #[.pointer (some ⟨g,0,none⟩),sp,itemV 1 key t v tag] W fun e w'=>e = .returned (.tuple #[]) /\ P w')
 (hm:∀ W,P W -> Calls Tryz.prog 77 #[.pointer (some ⟨g,0,none⟩)] W fun e w'=>e = .returned (.tuple #[]) /\ Q w') :
 Calls Tryz.prog 72 #[.pointer (some ⟨g,0,none⟩),sp,itemV 1 key t v tag] w fun e w'=>e = .returned (.tuple #[]) /\ Q w':=by
 have HD:Hid (∀ W,Below w.heap.size w W -> Calls Tryz.prog 99 #[.pointer (some ⟨g,0,none⟩),sp,itemV 1 key t v tag] W fun e w'=>e = .returned (.tuple #[]) /\ P w'):=hd
 have HM:Hid (∀ W,P W -> Calls Tryz.prog 77 #[.pointer (some ⟨g,0,none⟩)] W fun e w'=>e = .returned (.tuple #[]) /\ Q w'):=hm
 clear hd hm
 unfold itemV
 go_enter Tryz.func72,Tryz.ntmps72
 go_wp2_with fail
 refine (HD.out _ ((Below.refl _ w).alloc (Nat.le_refl _) _)).mono ?_
 rintro e W ⟨rfl,hp⟩
 have HP:Hid (P W):=hp
 clear hp
 go_wp2_with fail
 refine (HM.out _ HP.out).mono ?_
 rintro e W2 ⟨rfl,hq⟩
 have HQ:Hid (Q W2):=hq
 clear hq
 go_wp2
 go_end0
 exact ⟨rfl,HQ.out⟩
end Go.Proofs.YtcfngdnmpogaoaaGreat
namespace Go.Proofs.YtcfngdnmpogaoaaGreat
open Go.RowKit Go.MuLone
def kn (s0:SSrc) (lk lt:Int) (li:Bool) (going ended:Value) (taken marks:Int):SCells:=
 ⟨lk,10,10,0,1,[s0,SSrc.zero,SSrc.zero,SSrc.zero,SSrc.zero,SSrc.zero,SSrc.zero,SSrc.zero],lt,li,going,ended,⟨taken,0,0,0,marks,0⟩⟩
abbrev keyK:ByteArray:=⟨#[107]⟩
abbrev DK:DataW Unit:=(DataW.map []).put (.int .u32 ((9:Nat):Int)) (.agg [])
abbrev OneK (w:World) (g:Nat) (r:SCells) (gv:Value) (R P M b:Nat) (pv:Value):Prop:=OneF w g r gv R P M b pv keyK 0 0 1 3 3 3 1 DK
end Go.Proofs.YtcfngdnmpogaoaaGreat
