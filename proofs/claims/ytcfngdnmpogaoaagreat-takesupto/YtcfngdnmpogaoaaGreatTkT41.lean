import Derived.Test.YtcfngdnmpogaoaaGreatTkT40
import Derived.Test.YtcfngdnmpogaoaaGreatTkT37
import Derived.Test.YtcfngdnmpogaoaaGreatTkT17
namespace Go.Proofs.YtcfngdnmpogaoaaGreat
open Go.RowKit Go.MuLone
variable {T:Option Int} {T2:Option Int × Nat} {c:Cf} {g:Nat} {r:RCells} {rs:List (List UInt8)} {sp:Sp} {w:World}
theorem FlowOn.up {w':World} {F:Nat->Prop} (h:FlowOn w' g c sp rs F T):FlowOn w' g c sp rs (Grown F w) T:=h.mono (fun _ hk=>.inl hk)
theorem RefOn.evNe {E:List Ev} {ds:List WinX} {G:Nat->Prop} (h:RefOn w g r E ds G):∀ k,r.events.ownBlock=some k->¬ k=g:=fun k hk e=>by
 subst e;exact (h.rev.ev.cb hk).ne (Cb.of h.rev.rf.blk) (by decide) rfl
theorem RefOn.cells {W:World} {r':RCells} {E:List Ev} {ds:List WinX} {G:Nat->Prop} (h:RefOn w g r E ds G) (hr:RF W g r') (hd:r'.done=r.done) (he:r'.events=r.events) (hk:Kept (fun k=>k=g) w W):REv W g r' E/\RefOn W g r' E ds (Grown G w)/\Kept G w W:=by
 have h1:REv W g r' E:=⟨hr,by rw [he];exact h.rev.ev.kept hk h.evNe⟩
 exact ⟨h1,h.turn h1 hd (hk.mono (fun k _ e=>.inl e)) (fun k hk=>.inl (by rw [<- he];exact hk))⟩
theorem src_cases (_c:Cf) (sp:Sp) (n:Int) (h8:sp.src.length=8):¬ (0<=n/\n < 8)\/∃ (m:Nat) (s:SrcS),n=(m:Int)/\sp.src[m]?=some s:=by
 by_cases hn:0<=n/\n < 8
 . exact .inr ⟨n.toNat,sp.src[n.toNat]'(by omega),by omega,List.getElem?_eq_getElem _⟩
 . exact .inl hn
theorem least_open {l:List SrcS} {n:Nat}:leastS (l.modify n fun x=>⟨true,x.broken,x.time,x.is⟩)=leastS l:=by
 unfold leastS
 suffices h:∀ m,(l.modify n fun x=>⟨true,x.broken,x.time,x.is⟩).foldl leastStepS m=l.foldl leastStepS m from h _
 induction l generalizing n with
 | nil=>intro m;simp
 | cons a l ih=>
   intro m
   cases n with
   | zero=>rfl
   | succ n=>simp only [List.modify_succ_cons,List.foldl_cons];exact ih _
theorem RefRel.opened {d:Nat} (h:RefRel c sp rs r d) (n:Nat) (s:SrcS) (hs:sp.src[n]?=some s) (ho:s.opened=false):RefRel c (sp.open n) rs (r.setSrc n ⟨true,false,false,0,⟨#[]⟩⟩) d:=by
 obtain ⟨s1,s2,s3⟩:=h.shut n s hs ho
 obtain ⟨t,ht,-⟩:=h.src.at hs
 have hlt:n < r.src.length:=(List.getElem?_eq_some_iff.1 ht).1
 refine ⟨h.size,h.slide,h.late,h.keys,h.line,h.lined,h.n,⟨?_,fun i a b ha hb=>?_⟩,h.rl,fun i t' l ht' hl hb'=>?_,h.done,h.ok,fun i s' hs' ho'=>?_⟩
 . show (sp.src.modify n _).length=(r.src.set n _).length
   rw [List.length_modify,List.length_set];exact h.src.1
 . have ha2:(sp.src.modify n fun x=>⟨true,x.broken,x.time,x.is⟩)[i]?=some a:=ha
   have hb2:(r.src.set n ⟨true,false,false,0,⟨#[]⟩⟩)[i]?=some b:=hb
   rw [List.getElem?_set] at hb2
   by_cases hi:n=i
   . subst hi
     rw [if_pos rfl,if_pos hlt] at hb2
     rw [modify_at _ hs] at ha2
     simp only [Option.some.injEq] at ha2 hb2
     subst ha2;subst hb2
     exact ⟨rfl,s1.symm,fun _=>s2,fun _ _=>⟨s2.symm,fun hh=>by simp only [s2] at hh;cases hh⟩⟩
   . rw [modify_ne _ hi] at ha2
     rw [if_neg hi] at hb2
     exact h.src.2 i a b ha2 hb2
 . have ht2:(r.src.set n ⟨true,false,false,0,⟨#[]⟩⟩)[i]?=some t':=ht'
   rw [List.getElem?_set] at ht2
   by_cases hi:n=i
   . subst hi
     rw [if_pos rfl,if_pos hlt] at ht2
     simp only [Option.some.injEq] at ht2
     subst ht2
     rw [s3] at hl
     simp only [Option.some.injEq] at hl
     rw [<- hl]
   . rw [if_neg hi] at ht2
     exact h.rest i t' l ht2 hl hb'
 . have hs2:(sp.src.modify n fun x=>⟨true,x.broken,x.time,x.is⟩)[i]?=some s':=hs'
   by_cases hi:n=i
   . subst hi
     rw [modify_at _ hs] at hs2
     simp only [Option.some.injEq] at hs2
     rw [<- hs2] at ho'
     cases ho'
   . rw [modify_ne _ hi] at hs2
     exact h.shut i s' hs2 ho'
theorem open_two (f r:Nat) (c:Cf) (sp:Sp) (rs:List (List UInt8)) (n:Int) (h8:sp.src.length=8):∃ (x:Int) (sp':Sp),sp'.E=sp.E /\
 (∀ (w:World) (F:Nat->Prop),FlowOn w f c sp rs F T->Calls Tryz.prog 22 #[.pointer (some ⟨f,0,none⟩),.int .i64 n] w fun e w'=>e=.returned (.int .i64 x)/\FlowOn w' f c sp' rs (Grown F w) T/\Kept F w w') /\
 ∀ (w:World) (G:Nat->Prop),Ref T2 w r c sp rs G->Calls Tryz.prog 55 #[.pointer (some ⟨r,0,none⟩),.int .i64 n] w fun e w'=>e=.returned (.int .i64 x)/\Ref T2 w' r c sp' rs (Grown G w)/\Kept G w w':=by
 rcases src_cases c sp n h8 with hn | ⟨m,s,rfl,hs⟩
 . refine ⟨3,sp,rfl,fun w F h=>(open_out_on f n c sp rs F T w h hn).mono (fun e w' ⟨h1,h2,h3⟩=>⟨h1,h2.up,h3⟩),fun w G h=>(ropen_out r n w hn).mono ?_⟩
   rintro e w' ⟨rfl,rfl⟩
   exact ⟨rfl,h.mono (fun k hk=>.inl hk),Kept.refl _ _⟩
 . cases ho:s.opened with
   | true=>
     refine ⟨4,sp,rfl,fun w F h=>(open_no_on f m c sp rs F T s w h hs ho).mono (fun e w' ⟨h1,h2,h3⟩=>⟨h1,h2.up,h3⟩),fun w G h=>?_⟩
     obtain ⟨rr,ds,h1,h2,h3⟩:=id h
     obtain ⟨t,ht,hst⟩:=h2.src.at hs
     refine (ropen_no r m rr t w h1.rev.rf ht (hst.op.trans ho)).mono ?_
     rintro e w' ⟨rfl,rfl⟩
     exact ⟨rfl,h.mono (fun k hk=>.inl hk),Kept.refl _ _⟩
   | false=>
     refine ⟨0,sp.open m,rfl,fun w F h=>(open_on f m c sp rs F T s w h hs ho).mono (fun e w' ⟨h1,h2,h3⟩=>⟨h1,h2.up,h3⟩),fun w G h=>?_⟩
     obtain ⟨rr,ds,h1,h2,h3,hpd⟩:=h
     obtain ⟨t,ht,hst⟩:=h2.src.at hs
     refine (ropen_yes r m rr t w h1.rev.rf ht (hst.op.trans ho)).mono ?_
     rintro e w' ⟨rfl,a1,a2⟩
     obtain ⟨-,b2,b3⟩:=h1.cells a1 rfl rfl a2
     refine ⟨rfl,⟨_,ds,b2,h2.opened m s hs ho,?_,hpd.opened m⟩,b3⟩
     have e1:=congrArg Sp.lt h3
     have e2:=congrArg Sp.li h3
     unfold Sp.line lineF at *
     unfold Sp.open
     simp only [least_open] at *
     rw [e1,e2]
theorem RefRel.closed {d:Nat} (h:RefRel c sp rs r d) (n:Nat) (s:SrcS) (hs:sp.src[n]?=some s) (h8:sp.src.length=8):RefRel c (sp.close0 n) (rs.set n []) (r.setSrc n RSrc.zero) d:=by
 obtain ⟨t,ht,-⟩:=h.src.at hs
 have hlt:n < r.src.length:=(List.getElem?_eq_some_iff.1 ht).1
 refine ⟨h.size,h.slide,h.late,h.keys,h.line,h.lined,h.n,⟨?_,fun i a b ha hb=>?_⟩,by rw [List.length_set];exact h.rl,fun i t' l ht' hl hb'=>?_,h.done,h.ok,fun i s' hs' ho'=>?_⟩
 . show (sp.src.modify n _).length=(r.src.set n _).length
   rw [List.length_modify,List.length_set];exact h.src.1
 . have ha2:(sp.src.modify n fun _=>⟨false,false,0,false⟩)[i]?=some a:=ha
   have hb2:(r.src.set n RSrc.zero)[i]?=some b:=hb
   rw [List.getElem?_set] at hb2
   by_cases hi:n=i
   . subst hi
     rw [if_pos rfl,if_pos hlt] at hb2
     rw [modify_at _ hs] at ha2
     simp only [Option.some.injEq] at ha2 hb2
     subst ha2;subst hb2
     exact ⟨rfl,rfl,fun _=>rfl,fun hh=>by cases hh⟩
   . rw [modify_ne _ hi] at ha2
     rw [if_neg hi] at hb2
     exact h.src.2 i a b ha2 hb2
 . have ht2:(r.src.set n RSrc.zero)[i]?=some t':=ht'
   rw [List.getElem?_set] at ht2 hl
   by_cases hi:n=i
   . subst hi
     rw [if_pos rfl,if_pos hlt] at ht2
     rw [if_pos rfl] at hl
     simp only [Option.some.injEq] at ht2
     subst ht2
     split at hl
     . simp only [Option.some.injEq] at hl
       rw [<- hl];rfl
     . cases hl
   . rw [if_neg hi] at ht2 hl
     exact h.rest i t' l ht2 hl hb'
 . have hs2:(sp.src.modify n fun _=>⟨false,false,0,false⟩)[i]?=some s':=hs'
   rw [List.getElem?_set]
   by_cases hi:n=i
   . subst hi
     rw [modify_at _ hs] at hs2
     simp only [Option.some.injEq] at hs2
     have hn:n < rs.length:=by rw [h.rl,<- h8];exact (List.getElem?_eq_some_iff.1 hs).1
     rw [if_pos rfl,if_pos hn,<- hs2]
     exact ⟨rfl,rfl,rfl⟩
   . rw [modify_ne _ hi] at hs2
     rw [if_neg hi]
     exact h.shut i s' hs2 ho'
theorem close_two (f r:Nat) (c:Cf) (sp:Sp) (rs:List (List UInt8)) (n:Int) (h8:sp.src.length=8) (hc:CfOk c) (hE:sp.E.length<=200000) (hrl:rs.length=8):∃ (x:Int) (sp':Sp) (rs':List (List UInt8)),sp'.E=sp.E/\(rs'.map List.length).sum<=(rs.map List.length).sum /\
 (∀ (w:World) (F:Nat->Prop),FlowOn w f c sp rs F T->Calls Tryz.prog 49 #[.pointer (some ⟨f,0,none⟩),.int .i64 n] w fun e w'=>e=.returned (.int .i64 x)/\FlowOn w' f c sp' rs' (Grown F w) T/\Kept F w w') /\
 ∀ (w:World) (G:Nat->Prop),Ref T2 w r c sp rs G->Calls Tryz.prog 60 #[.pointer (some ⟨r,0,none⟩),.int .i64 n] w fun e w'=>e=.returned (.int .i64 x)/\Ref T2 w' r c sp' rs' (Grown G w)/\Kept G w w':=by
 rcases src_cases c sp n h8 with hn | ⟨m,s,rfl,hs⟩
 . refine ⟨3,sp,rs,rfl,Nat.le_refl _,fun w F h=>(close_out_on f n c sp rs F T w h hn).mono (fun e w' ⟨h1,h2,h3⟩=>⟨h1,h2.up,h3⟩),fun w G h=>(rclose_out r n w hn).mono ?_⟩
   rintro e w' ⟨rfl,rfl⟩
   exact ⟨rfl,h.mono (fun k hk=>.inl hk),Kept.refl _ _⟩
 . cases ho:s.opened with
   | false=>
     refine ⟨4,sp,rs,rfl,Nat.le_refl _,fun w F h=>(close_no_on f m c sp rs F T s w h hs ho).mono (fun e w' ⟨h1,h2,h3⟩=>⟨h1,h2.up,h3⟩),fun w G h=>?_⟩
     obtain ⟨rr,ds,h1,h2,h3⟩:=id h
     obtain ⟨t,ht,hst⟩:=h2.src.at hs
     refine (rclose_no r m rr t w h1.rev.rf ht (hst.op.trans ho)).mono ?_
     rintro e w' ⟨rfl,rfl⟩
     exact ⟨rfl,h.mono (fun k hk=>.inl hk),Kept.refl _ _⟩
   | true=>
     have hm:m < rs.length:=by rw [hrl,<- h8];exact (List.getElem?_eq_some_iff.1 hs).1
     have hsum:=sum_set rs m rs[m] [] (List.getElem?_eq_getElem hm)
     refine ⟨0,(sp.close0 m).line c,rs.set m [],rfl,by simp only [List.length_nil] at hsum;omega,fun w F h=>close_on f m c sp rs F T s w h hs ho (by omega),fun w G h=>?_⟩
     obtain ⟨rr,ds,h1,h2,h3,hpd⟩:=h
     obtain ⟨t,ht,hst⟩:=h2.src.at hs
     refine rclose_of r m rr t w h1.rev.rf ht (hst.op.trans ho) _ (fun W a1 a2=>?_)
     obtain ⟨b1,-,-⟩:=h1.cells a1 rfl rfl a2
     exact lines_then (sp':=sp.close0 m) hc h1 b1 rfl (a2.mono (fun k _ e=>.inl e)) (fun k hk=>.inl hk) (h2.closed m s hs h8) (hpd.out h3 m ⟨false,false,0,false⟩ rfl _) hE
theorem feed_two (f r:Nat) (c:Cf) (sp:Sp) (rs:List (List UInt8)) (n:Int) (b:ByteArray) (h8:sp.src.length=8) (hc:CfOk c) (hE:heft sp rs+b.size<=5000000) (hrl:rs.length=8):∃ (x:Int) (sp':Sp) (rs':List (List UInt8)),heft sp' rs'<=heft sp rs+b.size /\
 (∀ (w:World) (F:Nat->Prop) (bv:Value),FlowOn w f c sp rs F T->Row w 5 1 bv (b.data.toList.map byteV)->Calls Tryz.prog 20 #[.pointer (some ⟨f,0,none⟩),.int .i64 n,bv] w fun e w'=>e=.returned (.int .i64 x)/\FlowOn w' f c sp' rs' (Grown F w) T/\Kept F w w') /\
 ∀ (w:World) (G:Nat->Prop),Ref T2 w r c sp rs G->Calls Tryz.prog 57 #[.pointer (some ⟨r,0,none⟩),.int .i64 n,.string b] w fun e w'=>e=.returned (.int .i64 x)/\Ref T2 w' r c sp' rs' (Grown G w)/\Kept G w w':=by
 rcases src_cases c sp n h8 with hn | ⟨m,s,rfl,hs⟩
 . refine ⟨3,sp,rs,Nat.le_add_right _ _,fun w F bv h _=>(feed_out_on f n c sp rs F T bv w h hn).mono (fun e w' ⟨h1,h2,h3⟩=>⟨h1,h2.up,h3⟩),fun w G h=>(rfeed_out r n b w hn).mono ?_⟩
   rintro e w' ⟨rfl,rfl⟩
   exact ⟨rfl,h.mono (fun k hk=>.inl hk),Kept.refl _ _⟩
 . cases ho:s.opened with
   | false=>
     refine ⟨4,sp,rs,Nat.le_add_right _ _,fun w F bv h _=>(feed_no_on f m c sp rs F T bv s w h hs ho).mono (fun e w' ⟨h1,h2,h3⟩=>⟨h1,h2.up,h3⟩),fun w G h=>?_⟩
     obtain ⟨rr,ds,h1,h2,h3⟩:=id h
     obtain ⟨t,ht,hst⟩:=h2.src.at hs
     refine (rfeed_no r m b rr t w h1.rev.rf ht (hst.op.trans ho)).mono ?_
     rintro e w' ⟨rfl,rfl⟩
     exact ⟨rfl,h.mono (fun k hk=>.inl hk),Kept.refl _ _⟩
   | true=>
     cases hb:s.broken with
     | true=>
       refine ⟨0,sp,rs,Nat.le_add_right _ _,fun w F bv h _=>(feed_broken_on f m c sp rs F T bv s w h hs ho hb).mono (fun e w' ⟨h1,h2,h3⟩=>⟨h1,h2.up,h3⟩),fun w G h=>?_⟩
       obtain ⟨rr,ds,h1,h2,h3⟩:=id h
       obtain ⟨t,ht,hst⟩:=h2.src.at hs
       refine (rfeed_broken r m b rr t w h1.rev.rf ht (hst.op.trans ho) (hst.br.trans hb)).mono ?_
       rintro e w' ⟨rfl,rfl⟩
       exact ⟨rfl,h.mono (fun k hk=>.inl hk),Kept.refl _ _⟩
     | false=>
       have hm:m < rs.length:=by rw [hrl,<- h8];exact (List.getElem?_eq_some_iff.1 hs).1
       have hsum:=sum_set rs m rs[m] (feedF c m ((rs[m]++b.data.toList).length+1) sp (rs[m]++b.data.toList)).2 (List.getElem?_eq_getElem hm)
       have hheft:=feedF_heft c m ((rs[m]++b.data.toList).length+1) sp (rs[m]++b.data.toList)
       have hbl:=keyLen b
       have happ:(rs[m]++b.data.toList).length=rs[m].length+b.data.toList.length:=List.length_append
       unfold heft at hE ⊢
       generalize hR:feedF c m ((rs[m]++b.data.toList).length+1) sp (rs[m]++b.data.toList)=R at *
       have h0:=sum_set rs m rs[m] [] (List.getElem?_eq_getElem hm)
       simp only [List.length_nil] at h0
       refine ⟨0,R.1,rs.set m R.2,by omega,fun w F bv h hrow=>by rw [<- hR];exact feed_on f m c sp rs F T bv b.data.toList rs[m] s w h hs ho hb (List.getElem?_eq_getElem hm) hrow (by omega),fun w G h=>?_⟩
       rw [<- hR]
       exact rfeed_ref w r m c sp rs G b s hc h hs ho hb rs[m] (List.getElem?_eq_getElem hm) (by rw [List.length_append];omega) (by omega)
theorem ref_new (w:World) (g:Nat) (c:Cf) (h:w.heap[g]?=some (.cells (RCells.new c.size c.slide c.late c.keys).cells.toArray 140)):Ref (none,0) w g c Sp.new (List.replicate 8 []) (fun k=>k=g):=by
 refine ⟨RCells.new c.size c.slide c.late c.keys,[],⟨⟨⟨h,rfl⟩,Row.nil _ _ _⟩,⟨Row.nil _ _ _,fun x hx=>by simp at hx,fun k hk=>by simp [RCells.new,Value.ownBlock] at hk,fun _=>rfl⟩,rfl,fun k hk=>by simp [RCells.new,Value.ownBlock] at hk,fun k hk=>by simp [RCells.new,Value.ownBlock] at hk,fun x hx=>by simp at hx⟩,⟨rfl,rfl,rfl,rfl,rfl,rfl,rfl,⟨rfl,fun i a b ha hb=>?_⟩,rfl,fun i t l ht hl _=>?_,Nat.zero_le _,fun e he=>by simp [Sp.new] at he,fun i s hs _=>?_⟩,rfl,Pend.new c⟩
 . have ha2:(List.replicate 8 (⟨false,false,0,false⟩:SrcS))[i]?=some a:=ha
   have hb2:(List.replicate 8 RSrc.zero)[i]?=some b:=hb
   rw [List.getElem?_replicate] at ha2 hb2
   split at ha2
   . rename_i hi
     rw [if_pos hi] at hb2
     cases ha2;cases hb2
     exact ⟨rfl,rfl,fun _=>rfl,fun hh=>by cases hh⟩
   . cases ha2
 . have ht2:(List.replicate 8 RSrc.zero)[i]?=some t:=ht
   rw [List.getElem?_replicate] at ht2 hl
   split at ht2
   . rename_i hi
     rw [if_pos hi] at hl
     cases ht2;cases hl;rfl
   . cases ht2
 . have hs2:(List.replicate 8 (⟨false,false,0,false⟩:SrcS))[i]?=some s:=hs
   rw [List.getElem?_replicate] at hs2 ⊢
   split at hs2
   . rename_i hi
     rw [if_pos hi]
     cases hs2;exact ⟨rfl,rfl,rfl⟩
   . cases hs2
end Go.Proofs.YtcfngdnmpogaoaaGreat
namespace Go.Proofs.YtcfngdnmpogaoaaGreat
open Go.RowKit
set_option maxHeartbeats 3200000
set_option maxRecDepth 20000
theorem same_any (x:Win) (va vb:Value) (w:World) (ha:Row w 26 1 va (x.tags.map tagV)) (hb:Row w 26 1 vb (x.tags.map tagV)) (hl:x.tags.length<=4611686018427387904) :
 Calls Tryz.prog 85 #[.agg (wdC x.key x.start x.cnt x.sum x.lo x.hi va),.agg (wdC x.key x.start x.cnt x.sum x.lo x.hi vb)] w fun e w'=>e=.returned (.bool true)/\Below w.heap.size w w':=by
 obtain ⟨aa,ca,hva,-⟩:=ha.len (by decide)
 obtain ⟨ab,cb,hvb,-⟩:=hb.len (by decide)
 rw [List.length_map,Nat.div_one] at hva hvb
 subst hva
 subst hvb
 obtain ⟨key,start,cnt,sum,lo,hi,ts⟩:=x
 simp only at *
 have HA:=hid ha
 have HB:=hid hb
 obtain ⟨n,hn⟩:∃ n,ts.length=n:=⟨_,rfl⟩
 have Hn:=hid hn
 rw [hn] at HA HB hl ⊢
 clear ha hb hn
 obtain ⟨hA,hB⟩:=two_new w (.cells (wdC key start cnt sum lo hi (.slice aa n ca)) 70) (.cells (wdC key start cnt sum lo hi (.slice ab n cb)) 70)
 have B1:Below w.heap.size w ((w.alloc (.cells (wdC key start cnt sum lo hi (.slice aa n ca)) 70)).alloc (.cells (wdC key start cnt sum lo hi (.slice ab n cb)) 70)):=((Below.refl _ w).alloc (Nat.le_refl _) _).alloc (by simp) _
 have HB1:=hid B1
 clear B1
 simp only [wdC] at *
 go_enter Tryz.func85,Tryz.ntmps85
 go_upto_region 1 with fail
 generalize (w.alloc (.cells #[.string key,.int .i64 start,.int .i64 cnt,.int .i64 sum,.int .i64 lo,.int .i64 hi,.slice aa n ca] 70)).alloc (.cells #[.string key,.int .i64 start,.int .i64 cnt,.int .i64 sum,.int .i64 lo,.int .i64 hi,.slice ab n cb] 70)=W1 at *
 obtain ⟨a0,a1,a2,a3,a4,a5,a6,-⟩:=wdCAt hA
 obtain ⟨b0,b1,b2,b3,b4,b5,b6,-⟩:=wdCAt hB
 go_wp2_with fail
 go_loopw [5] (fun i wr=>∃ k:Nat,k<=n/\i=.int .i64 (k:Int)/\Below W1.heap.size W1 wr) (fun i _=>n - (intOf i).toNat)
 case atStart=>exact ⟨0,Nat.zero_le _,rfl,Below.refl _ _⟩
 case round=>
  clear a0 a1 a2 a3 a4 a5 a6 b0 b1 b2 b3 b4 b5 b6
  obtain ⟨k,hk,rfl,hbw⟩:=hrel
  have hA2:=blkBelow hA hbw
  have hB2:=blkBelow hB hbw
  have Hbw:=hid hbw
  clear hbw
  obtain ⟨-,-,-,-,-,-,a6,-⟩:=wdCAt hA2
  obtain ⟨-,-,-,-,-,-,b6,-⟩:=wdCAt hB2
  have hB3:=HB1.out.trans (Hbw.out.mono HB1.out.size)
  by_cases hkn:k < n
  . obtain ⟨ga,oa,rfl⟩:=slice_some HA.out (by omega)
    obtain ⟨gb,ob,rfl⟩:=slice_some HB.out (by omega)
    have ca1:=HA.out.at hB3 k (by omega)
    have cb1:=HB.out.at hB3 k (by omega)
    obtain ⟨t,ht⟩:∃ t:Nat,(ts.map tagV)[k]?=some (.int .u32 (t:Int)):=by
     rw [List.getElem?_map,List.getElem?_eq_getElem (by rw [Hn.out];exact hkn)]
     exact ⟨_,rfl⟩
    rw [ht] at ca1 cb1
    clear hB3 hA2 hB2 ht
    go_wp2
    go_quiet (fail)
    go_wp2
    go_roundw
    case rel=>exact ⟨k+1,by omega,by go_num,below_drewN Hbw.out nq⟩
    case measure=>simp [intOf];omega
  . have HB3:=hid hB3
    clear hB3
    go_wp2
    go_ret
    exact ⟨rfl,HB3.out⟩
theorem Pend.took {c:Cf} {T:Option Int} {sp:Sp} {ds:List Win} (h:Pend c T sp ds):Pend c (tookT sp T) sp []:=by
 unfold tookT
 by_cases hl:sp.li=true
 . rw [if_pos hl]
   exact ⟨DoneOk.take _ _ _ _ _,fun x hx=>by cases hx;exact ⟨hl,Int.le_refl _⟩,h.li,h.lt,h.src⟩
 . rw [if_neg hl]
   refine ⟨?_,h.told,h.li,h.lt,h.src⟩
   have:sp.li=false:=by simpa using hl
   rw [this]
   exact DoneOk.void _ _ _ _ _
theorem rtake_any (g:Nat) (r:RCells) (w:World) (h:RF w g r):Calls Tryz.prog 84 #[.pointer (some ⟨g,0,none⟩)] w fun e w'=>e=.returned r.done/\w'=w.setCell ⟨g,47,none⟩ (.slice none 0 0):=by
 have c0:=h.tailAt 3 (v:=r.done) rfl
 have f0:=h.frozen 47
 obtain ⟨D,HD⟩:∃ D,Hid (r.done=D):=⟨_,rfl⟩
 rw [HD.out] at c0 ⊢
 go_enter Tryz.func84,Tryz.ntmps84
 go_wp2
 go_ret
 exact ⟨rfl,rfl⟩
theorem take_ref (w:World) (g:Nat) (c:Cf) (sp:Sp) (rs:List (List UInt8)) (G:Nat->Prop) (T:Option Int × Nat) (h:Ref T w g c sp rs G) :
 Calls Tryz.prog 84 #[.pointer (some ⟨g,0,none⟩)] w fun e w'=>∃ ov ds,e=.returned ov/\WinsAt w' ov ds 0/\Pend c T.1 sp (ds.map WinX.w)/\Ref (tookT sp T.1,T.2+ds.length) w' g c sp rs G/\Kept G w w':=by
 obtain ⟨r,ds,h1,h2,h3,hpd⟩:=h
 refine (rtake_any g r w h1.rev.rf).mono ?_
 rintro e w' ⟨rfl,rfl⟩
 have hk:Kept (fun k=>k=g) w (w.setCell ⟨g,47,none⟩ (.slice none 0 0)):=(Kept.refl _ w).setCell ⟨g,47,none⟩ _ (fun _=>rfl)
 have hdn:∀ k,r.done.ownBlock=some k->¬ k=g:=fun k hkd e=>by subst e;exact (h1.done.row.cb hkd).ne (Cb.of h1.rev.rf.blk) (by decide) rfl
 have htg:∀ x ∈ ds,∀ k,x.tv.ownBlock=some k->¬ k=g:=fun x hx k hkd e=>by subst e;exact ((h1.done.tags x hx).1.cb hkd).ne (Cb.of h1.rev.rf.blk) (by decide) rfl
 have hev:∀ k,r.events.ownBlock=some k->¬ k=g:=fun k hkd e=>by subst e;exact (h1.rev.ev.cb hkd).ne (Cb.of h1.rev.rf.blk) (by decide) rfl
 have hrf:=h1.rev.rf.putTail (r':={ r with done:=.slice none 0 0 }) 3 (.slice none 0 0) rfl rfl rfl
 refine ⟨r.done,ds,rfl,h1.done.kept hk hdn htg,hpd,⟨{ r with done:=.slice none 0 0 },[],⟨⟨hrf,h1.rev.ev.kept hk hev⟩,⟨Row.nil _ _ _,fun x hx=>(by cases hx),fun k hk=>by simp [Value.ownBlock] at hk,fun _=>rfl⟩,h1.me,h1.ev,fun k hk=>by simp [Value.ownBlock] at hk,fun x hx=>(by cases hx)⟩,⟨h2.size,h2.slide,h2.late,h2.keys,h2.line,h2.lined,h2.n,h2.src,h2.rl,h2.rest,h2.done,h2.ok,h2.shut⟩,h3,hpd.took⟩,hk.mono (fun k _ e=>by rw [e];exact h1.me)⟩
theorem FlowOn.shun {w:World} {g:Nat} {c:Cf} {sp:Sp} {rs:List (List UInt8)} {F:Nat->Prop} {T:Option Int} {X:Nat->Prop} (h:FlowOn w g c sp rs F T) (hX:∀ k,X k->∃ e sz v xs,Row w e sz v xs/\(e=70\/e=26)/\v.ownBlock=some k):FlowOn w g c sp rs (fun k=>F k/\¬ X k) T:=by
 obtain ⟨us,⟨st,⟨r,gs,es,h3,a1,a2,a3,h5⟩,h6⟩,h2⟩:=h
 refine ⟨us,⟨st,⟨r,gs,es,h3,a1,a2,a3,fun k hk=>⟨h5 k hk,fun hx=>?_⟩⟩,h6⟩,h2.ul,h2.rl,fun i v l hu hr=>⟨(h2.row i v l hu hr).1,fun k hk=>⟨(h2.row i v l hu hr).2.1 k hk,fun hx=>?_⟩,(h2.row i v l hu hr).2.2⟩⟩
 . obtain ⟨e,sz,v,xs,hrow,he,hv⟩:=hX k hx
   exact h3.apartW hrow he k hv hk
 . obtain ⟨e,sz,v',xs,hrow,he,hv⟩:=hX k hx
   rcases he with rfl | rfl
   . exact (h2.row i v l hu hr).1.apart hrow (by decide) hk hv
   . exact (h2.row i v l hu hr).1.apart hrow (by decide) hk hv
end Go.Proofs.YtcfngdnmpogaoaaGreat
namespace Go.Proofs.YtcfngdnmpogaoaaGreat
open Go.RowKit
variable {W W' w:World} {bw:Nat} {d d1:HoldD} {hs:List HoldD} {ps v:Value}
structure WInv (w:World) (bw:Nat) (ps hv:Value) (hs:List HoldD):Prop where
 blk:w.heap[bw]?=some (.cells #[ps,hv] 84 (0,0))
 row:Row w 133 1 hv (hs.map fun d=>.pointer (some ⟨d.hb,0,none⟩))
 holds:∀ d ∈ hs,Hold w d
theorem Hold.kept {X:Nat->Prop} (h:Hold w d) (hk:Kept X w W) (h0:¬ X d.hb) (h1:∀ k,d.vb.ownBlock=some k->¬ X k) (h2:∀ k,d.vt.ownBlock=some k->¬ X k) (h3:∀ k,d.vw.ownBlock=some k->¬ X k):Hold W d:=
 ⟨(hk.block d.hb (Array.getElem?_eq_some_iff.1 h.blk).1 h0).trans h.blk,h.rb.kept hk h1,h.rt.kept hk h2,h.rw_.kept hk h3,h.lb,h.lt,h.lw⟩
theorem world_cells {x0 x1:Value} {t:TypeId} (h:w.heap[bw]?=some (.cells #[x0,x1] t (0,0))) :
 w.cell? ⟨bw,0,none⟩=some x0/\w.cell? ⟨bw,1,none⟩=some x1/\(∀ j,w.frozen? ⟨bw,j,none⟩=false)/\bw < w.heap.size:=by
 refine ⟨?_,?_,fun j=>frozen_of_row w _ j _ _ h,(Array.getElem?_eq_some_iff.1 h).1⟩ <;> (rw [cell_of_row w _ _ _ _ _ h];rfl)
theorem WInv.put {w1:World} {hv hv1:Value} {o:Obj} (h:WInv W bw ps hv hs) (hd:Hold W d)
 (ha:App (W.alloc o) w1 133 1 hv hv1 (hs.map fun d=>.pointer (some ⟨d.hb,0,none⟩)) [.pointer (some ⟨d.hb,0,none⟩)]) :
 WInv (w1.setCell ⟨bw,1,none⟩ hv1) bw ps hv1 (hs++[d])/\Kept (fun k=>k=bw\/hv.ownBlock=some k) W (w1.setCell ⟨bw,1,none⟩ hv1)/\Stepped W hv hv1:=by
 have hb1:=App.other ha h.row h.blk (by decide)
 have hgr:Grew bw W (w1.setCell ⟨bw,1,none⟩ hv1) 133 1 hv hv1 _ _:=Grew.of ha hb1 (by decide)
 have hH:∀ d,Hold W d->Hold (w1.setCell ⟨bw,1,none⟩ hv1) d:=fun d hd=>by
  refine hd.kept hgr.kept ?_ ?_ ?_ ?_
  . rintro (e | e)
    . exact h.row.ne_block hd.blk (by decide) e
    . have hq:=h.blk;rw [<- e,hd.blk] at hq;simp at hq
  . intro k hk;rintro (e | e)
    . exact hd.rb.apart h.row (by decide) hk e
    . subst e;exact hd.rb.ne_block h.blk (by decide) hk
  . intro k hk;rintro (e | e)
    . exact hd.rt.apart h.row (by decide) hk e
    . subst e;exact hd.rt.ne_block h.blk (by decide) hk
  . intro k hk;rintro (e | e)
    . exact hd.rw_.apart h.row (by decide) hk e
    . subst e;exact hd.rw_.ne_block h.blk (by decide) hk
 refine ⟨⟨heap_setCell_same w1 bw 1 _ _ hv1 hb1,by simpa using hgr.row,fun d' hd'=>?_⟩,?_,hgr.step⟩
 . rcases List.mem_append.1 hd' with h' | h'
   . exact hH _ (h.holds _ h')
   . rw [List.mem_singleton.1 h'];exact hH _ hd
 . exact hgr.kept.mono (fun k _ h=>h.symm)
def Linked (d' d:HoldD):Prop:=
 (d'.vb.ownBlock=d.vb.ownBlock->offOf d'.vb=offOf d.vb/\d'.nb<=d.nb) /\
 (d'.vt.ownBlock=d.vt.ownBlock->offOf d'.vt=offOf d.vt/\d'.nt<=d.nt) /\
 (d'.vw.ownBlock=d.vw.ownBlock->offOf d'.vw=offOf d.vw/\d'.nw<=d.nw)
theorem Linked.refl (d:HoldD):Linked d d:=⟨fun _=>⟨rfl,Nat.le_refl _⟩,fun _=>⟨rfl,Nat.le_refl _⟩,fun _=>⟨rfl,Nat.le_refl _⟩⟩
theorem Row.none {e:TypeId} {sz:Nat} {xs:List Value} (h:Row w e sz v xs) (hn:v.ownBlock=none):offOf v=0/\xs=[]:=by
 rcases h with ⟨rfl,h⟩ | ⟨g,off,n,cap,cur,rfl,_⟩
 . exact ⟨rfl,h⟩
 . simp [Value.ownBlock] at hn
theorem link_one {e:TypeId} {sz:Nat} {u v1:Value} {ys:List Value} {nu n n1:Nat} (hu:Row w e sz u ys) (hs:Stepped w v v1) (hn:n<=n1) (hl:u.ownBlock=v.ownBlock->offOf u=offOf v/\nu<=n):u.ownBlock=v1.ownBlock->offOf u=offOf v1/\nu<=n1:=by
 intro he
 rcases hs with ⟨h1,h2⟩ | ⟨k,h1,h2⟩
 . have:=hl (he.trans h1)
   exact ⟨this.1.trans h2.symm,by omega⟩
 . rw [h1] at he
   have:=(hu.blk_lt he).1
   omega
theorem Longer.linked {d':HoldD} (hL:Longer W W' d d1) (hd':Hold W d') (hl:Linked d' d):Linked d' d1:=by
 obtain ⟨_,e1,e2,e3⟩:=hL.same
 exact ⟨link_one hd'.rb hL.pb (by omega) hl.1,link_one hd'.rt hL.pt (by omega) hl.2.1,link_one hd'.rw_ hL.pw (by omega) hl.2.2⟩
theorem Longer.holds {d':HoldD} (hL:Longer W W' d d1) (hd:Hold W d) (hd':Hold W d') (hl:Linked d' d):Hold W' d':=by
 refine ⟨(hL.kept.block d'.hb (Array.getElem?_eq_some_iff.1 hd'.blk).1 ?_).trans hd'.blk,?_,?_,?_,hd'.lb,hd'.lt,hd'.lw⟩
 . rintro (h | h | h)
   . exact hd.rb.ne_block hd'.blk (by decide) h
   . exact hd.rt.ne_block hd'.blk (by decide) h
   . exact hd.rw_.ne_block hd'.blk (by decide) h
 . exact hL.sb _ _ hd'.rb (fun e=>by rw [signs_len];exact hl.1 e)
 . exact hL.st _ _ hd'.rt (fun e=>by rw [tagsOf_len];exact hl.2.1 e)
 . exact hL.sw _ _ hd'.rw_ (fun e=>by rw [winOf_len];have:=hl.2.2 e;exact ⟨this.1,by omega⟩)
theorem WInv.longer {hv:Value} (h:WInv W bw ps hv hs) (hd:Hold W d) (hL:Longer W W' d d1) (hl:∀ d' ∈ hs,Linked d' d):WInv W' bw ps hv hs:=by
 refine ⟨(hL.kept.block bw (Array.getElem?_eq_some_iff.1 h.blk).1 ?_).trans h.blk,h.row.kept hL.kept ?_,fun d' hd'=>hL.holds hd (h.holds d' hd') (hl d' hd')⟩
 . rintro (e | e | e)
   . exact hd.rb.ne_block h.blk (by decide) e
   . exact hd.rt.ne_block h.blk (by decide) e
   . exact hd.rw_.ne_block h.blk (by decide) e
 . intro k hk
   rintro (e | e | e)
   . exact h.row.apart hd.rb (by decide) hk e
   . exact h.row.apart hd.rt (by decide) hk e
   . exact h.row.apart hd.rw_ (by decide) hk e
def HoldIn (N:Nat->Prop) (d:HoldD):Prop:=N d.hb/\(∀ k,d.vb.ownBlock=some k->N k)/\(∀ k,d.vt.ownBlock=some k->N k)/\∀ k,d.vw.ownBlock=some k->N k
structure KInv (T N:Nat->Prop) (w W:World) (bw:Nat) (ps:Value) (hs:List HoldD) (len:Nat × Nat × Nat) (n:Nat) (d:HoldD) (hvn:Value) (hsn:List HoldD):Prop where
 inv:WInv W bw ps hvn (hs++hsn)
 many:hsn.length=n+1
 mem:d ∈ hsn
 kept:Kept T w W
 hvb:∀ k,hvn.ownBlock=some k->T k
 nums:d.nb=len.1+n/\d.nt=len.2.1+n/\d.nw=len.2.2+n
 bb:∀ k,d.vb.ownBlock=some k->T k
 bt:∀ k,d.vt.ownBlock=some k->T k
 bwd:∀ k,d.vw.ownBlock=some k->T k
 links:∀ d' ∈ hs++hsn,Linked d' d
 news:∀ d' ∈ hsn,HoldIn N d'
theorem stepped_in {T:Nat->Prop} {b:Nat} {v1:Value} (h:Stepped W v v1) (hs:b<=W.heap.size) (hT:∀ k,b<=k->T k) (hv:∀ k,v.ownBlock=some k->T k):∀ k,v1.ownBlock=some k->T k:=by
 intro k hk
 rcases h with ⟨h1,_⟩ | ⟨k',h1,h2⟩
 . exact hv k (h1 ▸ hk)
 . rw [h1] at hk;simp only [Option.some.injEq] at hk;exact hT k (by omega)
theorem KInv.step {T N:Nat->Prop} {w1:World} {hvn hv1:Value} {hsn:List HoldD} {len:Nat × Nat × Nat} {n:Nat} {o:Obj} (h:KInv T N w W bw ps hs len n d hvn hsn) (hN:∀ k,w.heap.size<=k->N k) (hT:∀ k,w.heap.size<=k->T k) (hTb:T bw) (hL:Longer W W' d d1)
 (ha:App (W'.alloc o) w1 133 1 hvn hv1 ((hs++hsn).map fun d=>.pointer (some ⟨d.hb,0,none⟩)) [.pointer (some ⟨d1.hb,0,none⟩)]) :
 KInv T N w (w1.setCell ⟨bw,1,none⟩ hv1) bw ps hs len (n+1) d1 hv1 (hsn++[d1]):=by
 have hd:=h.inv.holds d (List.mem_append_right _ h.mem)
 have hW':=h.inv.longer hd hL h.links
 obtain ⟨p1,p2,p3⟩:=hW'.put hL.hold ha
 obtain ⟨_,e1,e2,e3⟩:=hL.same
 obtain ⟨n1,n2,n3⟩:=h.nums
 have hs1:w.heap.size<=W.heap.size:=h.kept.size
 have hs2:W.heap.size<=W'.heap.size:=hL.kept.size
 refine ⟨by rw [List.append_assoc] at p1;exact p1,by simp [h.many],by simp,?_,stepped_in p3 (by omega) hT h.hvb,⟨by omega,by omega,by omega⟩,stepped_in hL.pb (by omega) hT h.bb,stepped_in hL.pt (by omega) hT h.bt,stepped_in hL.pw (by omega) hT h.bwd,?_,?_⟩
 . refine (h.kept.step hL.kept ?_).step p2 ?_
   . intro i hi
     rintro (e | e | e)
     . exact h.bb i e
     . exact h.bt i e
     . exact h.bwd i e
   . intro i hi
     rintro (e | e)
     . rw [e];exact hTb
     . exact h.hvb i e
 . intro d' hd'
   rw [<- List.append_assoc] at hd'
   rcases List.mem_append.1 hd' with h' | h'
   . exact hL.linked (h.inv.holds d' h') (h.links d' h')
   . rw [List.mem_singleton.1 h'];exact Linked.refl _
 . intro d' hd'
   rcases List.mem_append.1 hd' with h' | h'
   . exact h.news d' h'
   . rw [List.mem_singleton.1 h']
     obtain ⟨-,o1,o2,o3⟩:=h.news d h.mem
     have hf:=hL.fresh
     exact ⟨hN _ (by omega),stepped_in hL.pb hs1 hN o1,stepped_in hL.pt hs1 hN o2,stepped_in hL.pw hs1 hN o3⟩
end Go.Proofs.YtcfngdnmpogaoaaGreat
